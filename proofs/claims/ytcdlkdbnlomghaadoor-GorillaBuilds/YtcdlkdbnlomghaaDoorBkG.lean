/-
  Sums, plainly (they may run round an int's end), and the contracts of counted and of sums.
-/
import Derived.Test.YtcdlkdbnlomghaaDoorBkF
import Derived.Test.YtcdlkdbnlomghaaDoorBkH
namespace Go.Proofs.YtcdlkdbnlomghaaDoor.Bk
open Go.ChangeShapes Go.WideShapes Go.ChangeAt Go.RowKit
open Go.Proofs.YtcdlkdbnlomghaaDoor.Fr
def Counted (N : List Int) : Prop := 0 < N.length ∧ 0 ≤ N.getD 0 0 ∧ N.getD 0 0 ≤ 64 ∧ (N.length : Int) = 2 * N.getD 0 0 + 1
def YesPost (P : Prop) (w : World) (e : Ending) (w' : World) : Prop := w' = w ∧ ∃ q : Bool, e = .returned (.bool q) ∧ (q = true ↔ P)
theorem yes_yes {P : Prop} {w : World} {q : Bool} (hq : q = true) (h : P) : YesPost P w (.returned (.bool q)) w := ⟨rfl, q, rfl, by simp [h, hq]⟩
theorem yes_no {P : Prop} {w : World} {q : Bool} (hq : q = false) (h : ¬ P) : YesPost P w (.returned (.bool q)) w := ⟨rfl, q, rfl, by simp [h, hq]⟩
set_option maxRecDepth 60000 in
theorem counted_any (a : Option Addr) (len cap : Nat) (N : List Int) (w : World) (h : RowAt w a len cap (cellsI N)) :
    Calls Tryd.prog 58 #[.slice a len cap] w fun e w' => YesPost (Counted N) w e w' := by
  have hl : N.length = len := by simpa [cellsI] using h.1
  have hm : len ≤ maxLen := Nat.le_trans h.2.1 h.2.2.1
  unfold maxLen at hm
  by_cases h0 : len = 0
  · have HN : Hid (¬ Counted N) := fun hc => by have := hc.1; omega
    subst h0
    clear h hm
    go_enter Tryd.func58, Tryd.ntmps58
    go_wp2
    go_ret
    exact yes_no rfl HN.out
  obtain ⟨b, off, rfl, hc⟩ := h.some (by omega)
  have c0 := hc 0 (by omega)
  rw [cellsI_get N 0 (by omega), Nat.add_zero] at c0
  have HC : Hid (Counted N ↔ 0 ≤ N.getD 0 0 ∧ N.getD 0 0 ≤ 64 ∧ (len : Int) = 2 * N.getD 0 0 + 1) := by
    unfold Counted; rw [hl]; exact ⟨fun h => h.2, fun h => ⟨by omega, h⟩⟩
  clear hc h
  generalize N.getD 0 0 = x at *
  have h1 : (0 : Int) < (len : Int) := by omega
  have h1' : 0 < len := by omega
  by_cases h2 : 0 ≤ x
  · by_cases h3 : x ≤ 64
    · obtain ⟨n, hn⟩ : ∃ n : Nat, 2 * x + 1 = (n : Int) := ⟨(2 * x + 1).toNat, by omega⟩
      have HN2 := Hid.mk9 hn
      by_cases h4 : len = n
      · have HY : Hid (Counted N) := HC.out.2 ⟨h2, h3, by omega⟩
        clear HC hn
        subst h4
        go_enter Tryd.func58, Tryd.ntmps58
        go_wp2_with (go_at_call 49; refine (size_any _ len _ h2 (by omega) HN2.out).mono ?_; rintro e w' ⟨rfl, hw9⟩; obtain rfl := hw9.symm)
        go_ret
        exact yes_yes (by simp) HY.out
      · have HN : Hid (¬ Counted N) := fun hc => by have := (HC.out.1 hc).2.2; omega
        clear HC hn
        have h5 : ¬ (len : Int) = (n : Int) := by omega
        go_enter Tryd.func58, Tryd.ntmps58
        go_wp2_with (go_at_call 49; refine (size_any _ n _ h2 (by omega) HN2.out).mono ?_; rintro e w' ⟨rfl, hw9⟩; obtain rfl := hw9.symm)
        go_ret
        exact yes_no (by simp; omega) HN.out
    · have HN : Hid (¬ Counted N) := fun hc => by have := (HC.out.1 hc).2.1; omega
      have d : decide (x ≤ 64) = false := decide_eq_false h3
      clear HC
      go_enter Tryd.func58, Tryd.ntmps58
      go_wp2
      go_ret
      exact yes_no rfl HN.out
  · have HN : Hid (¬ Counted N) := fun hc => by have := (HC.out.1 hc).1; omega
    have d : decide (0 ≤ x) = false := decide_eq_false h2
    clear HC
    go_enter Tryd.func58, Tryd.ntmps58
    go_wp2
    go_ret
    exact yes_no rfl HN.out
/-- what a sum is more than the one ahead, and the sum: both round an int's end -/
def ownW (r : Nat → Int) : Nat → Int
  | 0 => r 0
  | 1 => r 1
  | i + 2 => wrap64 (r (i + 2) + ownW r (i + 1))
def lastW (r : Nat → Int) : Nat → Int
  | 0 => wrap64 (0 + ownW r 0)
  | i + 1 => wrap64 (lastW r i + ownW r (i + 1))
def rT (R : List Int) (i : Nat) : Int := R.getD (2 * i) 0
def rV (R : List Int) (i : Nat) : Int := R.getD (2 * i + 1) 0
def sumsL (R : List Int) (k : Nat) : List Sm := (List.range k).map fun i => (lastW (rT R) i, lastW (rV R) i)
theorem sumsL_length (R : List Int) (k : Nat) : (sumsL R k).length = k := by simp [sumsL]
theorem sumsL_get (R : List Int) (k i : Nat) (h : i < k) : (sumsL R k).getD i sm0 = (lastW (rT R) i, lastW (rV R) i) := by
  simp [sumsL, h]
/-- a row of so many samples, the first ones known -/
def SRow (w : World) (G n i : Nat) (f g : Nat → Int) : Prop :=
  ∃ cur, w.heap[G]? = some (.cells cur 46 (0, 0)) ∧ cur.size = n * 2 ∧ ∀ j, j < i → cur[j * 2]? = some (.int .i64 (f j)) ∧ cur[j * 2 + 1]? = some (.int .i64 (g j))
theorem SRow.kept {w w' : World} {G n i : Nat} {f g : Nat → Int} (h : SRow w G n i f g) (e : w'.heap[G]? = w.heap[G]?) : SRow w' G n i f g := by
  obtain ⟨cur, h1, h2⟩ := h
  exact ⟨cur, e.trans h1, h2⟩
theorem SRow.lt {w : World} {G n i : Nat} {f g : Nat → Int} (h : SRow w G n i f g) : G < w.heap.size := by
  obtain ⟨cur, h1, h2⟩ := h
  exact (Array.getElem?_eq_some_iff.1 h1).1
theorem SRow.below {w w' : World} {G n i : Nat} {f g : Nat → Int} (h : SRow w G n i f g) (hb : Below w.heap.size w w') : SRow w' G n i f g := h.kept (hb.block G h.lt)
theorem SRow.at {w : World} {G n i : Nat} {f g : Nat → Int} (h : SRow w G n i f g) (j : Nat) (hj : j < n) : ∃ u v, w.cell? ⟨G, j * 2, none⟩ = some u ∧ w.cell? ⟨G, j * 2 + 1, none⟩ = some v ∧ w.frozen? ⟨G, j * 2, none⟩ = false ∧ w.frozen? ⟨G, j * 2 + 1, none⟩ = false := by
  obtain ⟨cur, h1, h2, h3⟩ := h
  refine ⟨cur[j * 2]'(by omega), cur[j * 2 + 1]'(by omega), ?_, ?_, ?_, ?_⟩
  · unfold World.cell?; rw [show w.heap[(⟨G, j * 2, none⟩ : Addr).block]? = _ from h1]; simp
  · unfold World.cell?; rw [show w.heap[(⟨G, j * 2 + 1, none⟩ : Addr).block]? = _ from h1]; simp
  · unfold World.frozen?; rw [show w.heap[(⟨G, j * 2, none⟩ : Addr).block]? = _ from h1]; simp
  · unfold World.frozen?; rw [show w.heap[(⟨G, j * 2 + 1, none⟩ : Addr).block]? = _ from h1]; simp
def putS (w : World) (G i : Nat) (x y : Int) : World := (w.setCell ⟨G, i * 2, none⟩ (.int .i64 x)).setCell ⟨G, i * 2 + 1, none⟩ (.int .i64 y)
theorem putS_else {w : World} {G i k : Nat} (x y : Int) (h : k ≠ G) : (putS w G i x y).heap[k]? = w.heap[k]? :=
  (heap_setCell_other _ ⟨G, i * 2 + 1, none⟩ k _ h).trans (heap_setCell_other _ ⟨G, i * 2, none⟩ k _ h)
theorem putS_below {N : Nat} {w0 w : World} {G i : Nat} (h : Below N w0 w) (hb : N ≤ G) (x y : Int) : Below N w0 (putS w G i x y) := (h.setCell (p := ⟨G, i * 2, none⟩) hb _).setCell (p := ⟨G, i * 2 + 1, none⟩) hb _
theorem SRow.put {w : World} {G n i : Nat} {f g : Nat → Int} (h : SRow w G n i f g) (hi : i < n) : SRow (putS w G i (f i) (g i)) G n (i + 1) f g := by
  obtain ⟨cur, h1, h2, h3⟩ := h
  have e1 := heap_setCell_same w G (i * 2) _ _ (.int .i64 (f i)) h1
  have e2 := heap_setCell_same (w.setCell ⟨G, i * 2, none⟩ (.int .i64 (f i))) G (i * 2 + 1) _ _ (.int .i64 (g i)) e1
  refine ⟨_, e2, by simp [h2], fun j hj => ?_⟩
  by_cases hji : j = i
  · subst hji
    simp [Array.getElem?_setIfInBounds, h2]; omega
  · have := h3 j (by omega)
    simp only [Array.getElem?_setIfInBounds]
    rw [if_neg (by omega), if_neg (by omega), if_neg (by omega), if_neg (by omega)]
    exact this
theorem SRow.sms {w : World} {G n : Nat} {R : List Int} (h : SRow w G n n (lastW (rT R)) (lastW (rV R))) (hn : n ≤ maxLen) : SmsAt w (some ⟨G, 0, none⟩) n n (sumsL R n) := by
  obtain ⟨cur, h1, h2, h3⟩ := h
  refine ⟨sumsL_length _ _, Nat.le_refl _, hn, .inr ⟨G, 0, rfl, fun i hi => ?_⟩⟩
  rw [sumsL_get _ _ _ hi]
  obtain ⟨q1, q2⟩ := h3 i hi
  constructor
  · unfold World.cell?; rw [show w.heap[(⟨G, 0 + i * 2, none⟩ : Addr).block]? = _ from h1]; simpa using q1
  · unfold World.cell?; rw [show w.heap[(⟨G, 0 + i * 2 + 1, none⟩ : Addr).block]? = _ from h1]; simpa using q2
theorem infoS : (Tryd.prog.info? 46).map (fun i => (i.zero, i.size, i.bytes)) = some (some (.agg #[.int .i64 0, .int .i64 0]), 2, 16) := by kernel_rfl
/-- behind sums -/
def SumsPost (R : List Int) (n : Nat) (w : World) (e : Ending) (w' : World) : Prop :=
  Below w.heap.size w w' ∧ ∃ G, e = .returned (.slice (some ⟨G, 0, none⟩) n n) ∧ w.heap.size ≤ G ∧ SRow w' G n n (lastW (rT R)) (lastW (rV R))
/-- what was reckoned so many steps on -/
def at0 (f : Nat → Int) (k : Nat) : Int := if k = 0 then 0 else f (k - 1)
def SumIn (R : List Int) (w : World) (G S n k : Nat) (wr : World) : Prop :=
  Below w.heap.size w wr ∧ SRow wr G n k (lastW (rT R)) (lastW (rV R)) ∧ SmBox wr S (at0 (lastW (rT R)) k) (at0 (lastW (rV R)) k) ∧ SmBox wr (S + 1) (at0 (ownW (rT R)) k) (at0 (ownW (rV R)) k)
theorem own_at (r : Nat → Int) (k : Nat) : ownW r k = if k ≤ 1 then r k else wrap64 (r k + at0 (ownW r) k) := by
  match k with
  | 0 => rfl
  | 1 => rfl
  | k + 2 => rw [if_neg (by omega)]; rfl
theorem last_at (r : Nat → Int) (k : Nat) : lastW r k = wrap64 (at0 (lastW r) k + ownW r k) := by
  match k with
  | 0 => rfl
  | k + 1 => rfl
set_option maxHeartbeats 2000000 in
set_option maxRecDepth 60000 in
theorem sums_any (a : Option Addr) (len cap n : Nat) (R : List Int) (w : World) (h : RowAt w a len cap (cellsI R)) (hn : len = 2 * n) (hn' : n ≤ 64) :
    Calls Tryd.prog 59 #[.slice a len cap] w fun e w' => SumsPost R n w e w' := by
  have hl : R.length = len := by simpa [cellsI] using h.1
  have HR : Hid (RowAt w a len cap (cellsI R)) := h
  clear h
  obtain ⟨i0, hi, hz0, hz1, hz2⟩ := info_parts infoS
  obtain ⟨wM, hmk, hownM, hgM⟩ := run_make_full (P := Tryd.prog) w w.heap.size 22 46 i0 (.agg #[.int .i64 0, .int .i64 0]) 2 Tryd.underlying22 hi hz0 hz1 .i64 .i64 n (by rw [hz2]; omega) (by unfold maxLen; omega) (Nat.le_refl _)
  have hq : (len : Int) / 2 = (n : Int) := by omega
  have hq2 : Int.tdiv (len : Int) 2 = (n : Int) := by rw [Int.tdiv_eq_ediv_of_nonneg (by omega)]; omega
  have HN := Hid.mk9 hn
  have hlen : (len : Int) ≤ 128 := by omega
  clear hn
  have HOM : Hid (SRow wM w.heap.size n 0 (lastW (rT R)) (lastW (rV R))) := by
    obtain ⟨_, ⟨hv, _⟩ | ⟨g, cp, cur, hv, _, hh, _, _, hc, _⟩⟩ := hownM
    · simp at hv
    · simp at hv
      obtain ⟨rfl, rfl⟩ := hv
      exact ⟨cur, hh, hc, fun j hj => absurd hj (Nat.not_lt_zero _)⟩
  have hbM : Below w.heap.size w wM := (Below.refl _ _).grown hgM (Nat.le_refl _) (by simp)
  clear hownM hgM
  go_enter Tryd.func59, Tryd.ntmps59
  go_wp2_with fail
  have HS0 : Hid (SumIn R w w.heap.size wM.heap.size n 0 ((wM.alloc (.cells #[.int .i64 0, .int .i64 0] 46)).alloc (.cells #[.int .i64 0, .int .i64 0] 46))) := by
    have q1 := below2 (below_alloc wM (.cells #[.int .i64 0, .int .i64 0] 46)) (below_alloc (wM.alloc (.cells #[.int .i64 0, .int .i64 0] 46)) (.cells #[.int .i64 0, .int .i64 0] 46))
    have s1 := SmBox.new (wM.alloc (.cells #[.int .i64 0, .int .i64 0] 46)) 0 0
    rw [show (wM.alloc (.cells #[.int .i64 0, .int .i64 0] 46)).heap.size = wM.heap.size + 1 from by simp] at s1
    exact ⟨hbM.trans (q1.mono hbM.size), HOM.out.below q1, (SmBox.new wM 0 0).below (below_alloc _ _), s1⟩
  have HW9 : Hid (True ∧ w.heap.size < wM.heap.size) := Hid.mk9 ⟨trivial, HOM.out.lt⟩
  generalize hS : wM.heap.size = S at *
  clear hS HOM hbM hmk
  go_loopw [14] (fun i wr => ∃ k : Nat, k ≤ n ∧ i = .int .i64 k ∧ Hid (SumIn R w w.heap.size S n k wr)) (fun i _ => n - (intOf i).toNat)
  case atStart => exact ⟨0, Nat.zero_le _, rfl, HS0⟩
  case round =>
    obtain ⟨k, hk, rfl, hP⟩ := hrel
    clear HS0
    by_cases hlt : k < n
    · obtain ⟨hbel, hrow, hl6, hl7⟩ := hP.out
      clear hP
      have hn9 := HN.out
      obtain ⟨b, off, rfl, hcell⟩ := (HR.out.below hbel).some (by omega)
      obtain ⟨p, hp⟩ : ∃ p, p = 2 * k := ⟨_, rfl⟩
      have e0 : wr.cell? ⟨b, off + p, none⟩ = some (.int .i64 (rT R k)) := by
        have := hcell p (by omega); rw [cellsI_get R p (by omega), hp] at this; rw [hp]; exact this
      have e1 : wr.cell? ⟨b, off + (p + 1), none⟩ = some (.int .i64 (rV R k)) := by
        have := hcell (p + 1) (by omega); rw [cellsI_get R (p + 1) (by omega), hp] at this; rw [hp]; exact this
      have hbs : b < wr.heap.size := World.block_lt_of_cell? wr ⟨b, off + p, none⟩ e0
      have P1 : IntKind.i64.wrap (2 * (k : Int)) = (p : Int) := iw (by omega) (by omega) (by omega)
      have P2 : IntKind.i64.wrap ((p : Int) + 1) = ((p + 1 : Nat) : Int) := iw (by omega) (by omega) (by omega)
      have P3 : (p : Int) < (len : Int) := by omega
      have P4 : ((p + 1 : Nat) : Int) < (len : Int) := by omega
      have P5 : (0 : Int) ≤ (p : Int) := by omega
      have P6 : (0 : Int) ≤ ((p + 1 : Nat) : Int) := by omega
      obtain ⟨p1, hp1⟩ : ∃ p1, p1 = p + 1 := ⟨_, rfl⟩
      rw [← hp1] at e1 P2 P4 P6
      clear hp1 hp hcell hn9
      have hS1 : S < wr.heap.size := hl6.lt
      have hS2 : S + 1 < wr.heap.size := hl7.lt
      have c60 := hl6.c0
      have c61 := hl6.c1
      have c70 := hl7.c0
      have c71 := hl7.c1
      have hk1 : (k : Int) < (n : Int) := by omega
      have OT := own_at (rT R) k
      have OV := own_at (rV R) k
      have W1 := Hid.mk9 (last_at (rT R) k).symm
      have W2 := Hid.mk9 (last_at (rV R) k).symm
      have H6 := Hid.mk9 hl6
      have H7 := Hid.mk9 hl7
      have HRw := Hid.mk9 hrow
      have HB := Hid.mk9 hbel
      have HF : Hid (∀ wC, Below w.heap.size w wC → SRow wC w.heap.size n (k + 1) (lastW (rT R)) (lastW (rV R)) → SmBox wC S (lastW (rT R) k) (lastW (rV R) k) → SmBox wC (S + 1) (ownW (rT R) k) (ownW (rV R) k) → SumIn R w w.heap.size S n (k + 1) wC) := fun wC q1 q2 q3 q4 => ⟨q1, q2, q3, q4⟩
      clear hl6 hl7 hrow hbel
      by_cases hk2 : k ≤ 1
      · rw [if_pos hk2] at OT OV
        have d1 : decide (1 < k) = false := by simp; omega
        have d2 : (k : Int) ≤ 1 := by omega
        clear hk2
        go_wp2_with fail
        go_region
        have bD : Below wr.heap.size wr (wr.alloc (.cells #[.int .i64 (rT R k), .int .i64 (rV R k)] 46)).drew := below2 (below_alloc wr _) (below_drew _)
        have A7 := Hid.mk9 ((SmBox.new wr (rT R k) (rV R k)).below (below_drew _))
        have A6 := Hid.mk9 (H6.out.below bD)
        have A5 := Hid.mk9 (H7.out.below bD)
        have AR := Hid.mk9 (HRw.out.below bD)
        have AB := Hid.mk9 (HB.out.trans (bD.mono HB.out.size))
        have u1 := A7.out.lt
        have u2 := A6.out.lt
        have u3 := A5.out.lt
        have u4 := A7.out.c0
        have u5 := A7.out.c1
        have u6 := A5.out.c0
        have u7 := A5.out.c1
        have u8 := A7.out.f0
        have u9 := A7.out.f1
        have n1 : ¬ wr.heap.size = S := by omega
        have n2 : ¬ wr.heap.size = S + 1 := by omega
        have n3 : ¬ S = wr.heap.size := by omega
        have n4 : ¬ S + 1 = wr.heap.size := by omega
        have n5 : wr.heap.size ≠ w.heap.size := by have := HW9.out.2; omega
        have n6 : w.heap.size ≤ wr.heap.size := HB.out.size
        clear bD H6 H7 HRw HB c60 c61 c70 c71 e0 e1 P1 P2 P3 P4 P5 P6 hS1 hS2 hbs
        generalize (wr.alloc (.cells #[.int .i64 (rT R k), .int .i64 (rV R k)] 46)).drew = w2 at *
        generalize wr.heap.size = X7 at *
        rw [← OT, ← OV] at A7
        generalize ownW (rT R) k = o1 at *
        generalize ownW (rV R) k = o2 at *
        generalize at0 (lastW (rT R)) k = l1 at *
        generalize at0 (lastW (rV R)) k = l2 at *
        generalize at0 (ownW (rT R)) k = p1' at *
        generalize at0 (ownW (rV R)) k = p2' at *
        go_upto_region 9 with fail
        generalize w2 = w3 at *
        clear u1 u2 u3 u4 u5 u6 u7 u8 u9
        refine sum_put _ _ _ _ _ _ _ _ _ _ _ _ _ _ _ _ _ _ _ _ _ _ _ _ _ _ _ _ _ _ _ _ _ _ _ _ _ _ _ _ _ S X7 l1 l2 o1 o2 p1' p2' (lastW (rT R) k) (lastW (rV R) k) w3 _ A6.out A5.out A7.out n1 n2 W1.out W2.out (Hid.mk9 (fun u34 u35 u36 u37 w4 b4 => ?_))
        have hs9 := HW9.out.2
        have Z6 := Hid.mk9 (((A6.out.below b4).set (lastW (rT R) k) (lastW (rV R) k)).else (b := S + 1) (.int .i64 o1) (.int .i64 o2) (by omega))
        have Z5 := Hid.mk9 (((A5.out.below b4).else (b := S) (.int .i64 (lastW (rT R) k)) (.int .i64 (lastW (rV R) k)) (by omega)).set o1 o2)
        have ZR := Hid.mk9 (((AR.out.below b4).kept (set2_else (b := S) (.int .i64 (lastW (rT R) k)) (.int .i64 (lastW (rV R) k)) (by omega))).kept (set2_else (b := S + 1) (.int .i64 o1) (.int .i64 o2) (by omega)))
        have ZB := Hid.mk9 (set2_below (set2_below (AB.out.trans (b4.mono AB.out.size)) (b := S) (by omega) (.int .i64 (lastW (rT R) k)) (.int .i64 (lastW (rV R) k))) (b := S + 1) (by omega) (.int .i64 o1) (.int .i64 o2))
        clear A5 A6 A7 AR AB b4
        generalize set2 (set2 w4 S (.int .i64 (lastW (rT R) k)) (.int .i64 (lastW (rV R) k))) (S + 1) (.int .i64 o1) (.int .i64 o2) = w6 at *
        obtain ⟨y1, y2, y3, y4, y5, y6⟩ := ZR.out.at k hlt
        have z1 := Z6.out.c0
        have z2 := Z6.out.c1
        have HE : Hid (SumIn R w w.heap.size S n (k + 1) (putS w6 w.heap.size k (lastW (rT R) k) (lastW (rV R) k))) :=
          HF.out _ (putS_below ZB.out (Nat.le_refl _) _ _) (ZR.out.put hlt) (Z6.out.kept (putS_else _ _ (by omega))) (Z5.out.kept (putS_else _ _ (by omega)))
        clear hs9 Z5 Z6 ZR ZB W1 W2 HF
        generalize lastW (rT R) k = s1 at *
        generalize lastW (rV R) k = s2 at *
        go_upto_region 11 with fail
        have hw7 : (w6.setCell ⟨w.heap.size, k * 2, none⟩ (.int .i64 s1)).setCell ⟨w.heap.size, k * 2 + 1, none⟩ (.int .i64 s2) = putS w6 w.heap.size k s1 s2 := rfl
        rw [hw7]
        generalize putS w6 w.heap.size k s1 s2 = w7 at *
        clear hw7 y3 y4 y5 y6 z1 z2
        go_wp2_with fail
        exact ⟨⟨k + 1, by omega, by go_num, HE⟩, by simp [intOf]; omega⟩
      · rw [if_neg hk2] at OT OV
        have V1 := Hid.mk9 OT.symm
        have V2 := Hid.mk9 OV.symm
        clear OT OV
        have d1 : decide (1 < k) = true := by simp; omega
        have d2 : (1 : Int) < (k : Int) := by omega
        clear hk2
        go_wp2_with fail
        go_region
        have bD : Below wr.heap.size wr (wr.alloc (.cells #[.int .i64 (rT R k), .int .i64 (rV R k)] 46)).drew := below2 (below_alloc wr _) (below_drew _)
        have A7 := Hid.mk9 ((SmBox.new wr (rT R k) (rV R k)).below (below_drew _))
        have A6 := Hid.mk9 (H6.out.below bD)
        have A5 := Hid.mk9 (H7.out.below bD)
        have AR := Hid.mk9 (HRw.out.below bD)
        have AB := Hid.mk9 (HB.out.trans (bD.mono HB.out.size))
        have u1 := A7.out.lt
        have u2 := A6.out.lt
        have u3 := A5.out.lt
        have u4 := A7.out.c0
        have u5 := A7.out.c1
        have u6 := A5.out.c0
        have u7 := A5.out.c1
        have u8 := A7.out.f0
        have u9 := A7.out.f1
        have n1 : ¬ wr.heap.size = S := by omega
        have n2 : ¬ wr.heap.size = S + 1 := by omega
        have n3 : ¬ S = wr.heap.size := by omega
        have n4 : ¬ S + 1 = wr.heap.size := by omega
        have n5 : wr.heap.size ≠ w.heap.size := by have := HW9.out.2; omega
        have n6 : w.heap.size ≤ wr.heap.size := HB.out.size
        clear bD H6 H7 HRw HB c60 c61 c70 c71 e0 e1 P1 P2 P3 P4 P5 P6 hS1 hS2 hbs
        generalize (wr.alloc (.cells #[.int .i64 (rT R k), .int .i64 (rV R k)] 46)).drew = w2 at *
        generalize wr.heap.size = X7 at *
        generalize ownW (rT R) k = o1 at *
        generalize ownW (rV R) k = o2 at *
        generalize at0 (lastW (rT R)) k = l1 at *
        generalize at0 (lastW (rV R)) k = l2 at *
        generalize at0 (ownW (rT R)) k = p1' at *
        generalize at0 (ownW (rV R)) k = p2' at *
        generalize rT R k = r1 at *
        generalize rV R k = r2 at *
        go_upto_region 9 with (go_at_call 78; refine (plus_to _ _ _ _ o1 o2 _ V1.out V2.out).mono ?_; rintro e w3' ⟨rfl, hg3⟩; have b3 := grown_below hg3; replace A7 := Hid.mk9 (A7.out.below b3); replace A6 := Hid.mk9 (A6.out.below b3); replace A5 := Hid.mk9 (A5.out.below b3); replace AR := Hid.mk9 (AR.out.below b3); replace AB := Hid.mk9 (AB.out.trans (b3.mono AB.out.size)); clear hg3 b3 u1 u2 u3 u4 u5 u6 u7 u8 u9; have u4 := A7.out.c0; have u5 := A7.out.c1; have u8 := A7.out.f0; have u9 := A7.out.f1)
        replace A6 := Hid.mk9 (A6.out.else (b := X7) (.int .i64 o1) (.int .i64 o2) (by omega))
        replace A5 := Hid.mk9 (A5.out.else (b := X7) (.int .i64 o1) (.int .i64 o2) (by omega))
        replace AR := Hid.mk9 (AR.out.kept (set2_else (b := X7) (.int .i64 o1) (.int .i64 o2) (by omega)))
        replace AB := Hid.mk9 (set2_below AB.out (b := X7) n6 (.int .i64 o1) (.int .i64 o2))
        replace A7 := Hid.mk9 (A7.out.set o1 o2)
        clear u4 u5 u8 u9
        have hw3 : (w3'.setCell ⟨X7, 0, none⟩ (.int .i64 o1)).setCell ⟨X7, 1, none⟩ (.int .i64 o2) = set2 w3' X7 (.int .i64 o1) (.int .i64 o2) := rfl
        rw [hw3]
        clear hw3
        generalize set2 w3' X7 (.int .i64 o1) (.int .i64 o2) = w3 at *
        refine sum_put _ _ _ _ _ _ _ _ _ _ _ _ _ _ _ _ _ _ _ _ _ _ _ _ _ _ _ _ _ _ _ _ _ _ _ _ _ _ _ _ _ S X7 l1 l2 o1 o2 p1' p2' (lastW (rT R) k) (lastW (rV R) k) w3 _ A6.out A5.out A7.out n1 n2 W1.out W2.out (Hid.mk9 (fun u34 u35 u36 u37 w4 b4 => ?_))
        have hs9 := HW9.out.2
        have Z6 := Hid.mk9 (((A6.out.below b4).set (lastW (rT R) k) (lastW (rV R) k)).else (b := S + 1) (.int .i64 o1) (.int .i64 o2) (by omega))
        have Z5 := Hid.mk9 (((A5.out.below b4).else (b := S) (.int .i64 (lastW (rT R) k)) (.int .i64 (lastW (rV R) k)) (by omega)).set o1 o2)
        have ZR := Hid.mk9 (((AR.out.below b4).kept (set2_else (b := S) (.int .i64 (lastW (rT R) k)) (.int .i64 (lastW (rV R) k)) (by omega))).kept (set2_else (b := S + 1) (.int .i64 o1) (.int .i64 o2) (by omega)))
        have ZB := Hid.mk9 (set2_below (set2_below (AB.out.trans (b4.mono AB.out.size)) (b := S) (by omega) (.int .i64 (lastW (rT R) k)) (.int .i64 (lastW (rV R) k))) (b := S + 1) (by omega) (.int .i64 o1) (.int .i64 o2))
        clear A5 A6 A7 AR AB b4
        generalize set2 (set2 w4 S (.int .i64 (lastW (rT R) k)) (.int .i64 (lastW (rV R) k))) (S + 1) (.int .i64 o1) (.int .i64 o2) = w6 at *
        obtain ⟨y1, y2, y3, y4, y5, y6⟩ := ZR.out.at k hlt
        have z1 := Z6.out.c0
        have z2 := Z6.out.c1
        have HE : Hid (SumIn R w w.heap.size S n (k + 1) (putS w6 w.heap.size k (lastW (rT R) k) (lastW (rV R) k))) :=
          HF.out _ (putS_below ZB.out (Nat.le_refl _) _ _) (ZR.out.put hlt) (Z6.out.kept (putS_else _ _ (by omega))) (Z5.out.kept (putS_else _ _ (by omega)))
        clear hs9 Z5 Z6 ZR ZB W1 W2 HF
        generalize lastW (rT R) k = s1 at *
        generalize lastW (rV R) k = s2 at *
        go_upto_region 11 with fail
        have hw7 : (w6.setCell ⟨w.heap.size, k * 2, none⟩ (.int .i64 s1)).setCell ⟨w.heap.size, k * 2 + 1, none⟩ (.int .i64 s2) = putS w6 w.heap.size k s1 s2 := rfl
        rw [hw7]
        generalize putS w6 w.heap.size k s1 s2 = w7 at *
        clear hw7 y3 y4 y5 y6 z1 z2
        go_wp2_with fail
        exact ⟨⟨k + 1, by omega, by go_num, HE⟩, by simp [intOf]; omega⟩
    · obtain rfl : k = n := by omega
      obtain ⟨hbel, hrow, -, -⟩ := hP.out
      have HE : Hid (SumsPost R k w (.returned (.slice (some ⟨w.heap.size, 0, none⟩) k k)) wr) := ⟨hbel, _, rfl, Nat.le_refl _, hrow⟩
      clear hrow hbel hP
      go_wp2_with fail
      go_ret
      exact HE.out
end Go.Proofs.YtcdlkdbnlomghaaDoor.Bk
