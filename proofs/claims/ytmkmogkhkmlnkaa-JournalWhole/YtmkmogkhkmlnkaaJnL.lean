/-
  found: the journal that stands on a drum.
-/
import Derived.Test.YtmkmogkhkmlnkaaJnK
import Derived.Test.YtmkmogkhkmlnkaaJnH
namespace Go.Proofs.Ytmkmogkhkmlnkaa.Dm
open Go.ChangeShapes Go.WideShapes Go.ChangeAt Go.RowKit
/-- what a sector tells as a head; 0: it is none -/
def HdR (n : Nat) (l : List UInt8) (g e : Nat) : Prop := HeadIs n l g e ∨ (g = 0 ∧ e = 0 ∧ NoHd n l)
/-- the half that is in use, its age, and how many bytes its frames have -/
def FdIs (n : Nat) (S : List UInt8) (b : Bool) (g e : Nat) : Prop := ∃ g0 e0 g1 e1, HdR n (sec S (hN n false)) g0 e0 ∧ HdR n (sec S (hN n true)) g1 e1 ∧ (((g0 < g1 ∨ g0 = 0) ∧ b = true ∧ g = g1 ∧ e = e1) ∨ (g1 ≤ g0 ∧ g0 ≠ 0 ∧ b = false ∧ g = g0 ∧ e = e0))
/-- where i of the halves were looked at -/
def FdI (n : Nat) (S : List UInt8) (i : Nat) (b : Bool) (g e : Nat) : Prop := (i = 0 ∧ b = true ∧ g = 0 ∧ e = 0) ∨ (i = 1 ∧ ∃ g0 e0, HdR n (sec S (hN n false)) g0 e0 ∧ ((g0 = 0 ∧ b = true ∧ g = 0 ∧ e = 0) ∨ (g0 ≠ 0 ∧ b = false ∧ g = g0 ∧ e = e0))) ∨ (i = 2 ∧ FdIs n S b g e)
theorem HdR.pos {n : Nat} {l : List UInt8} {g e : Nat} (h : HdR n l g e) (h0 : g = 0) : e = 0 := by
  rcases h with h | h
  · have := h.2.1; omega
  · exact h.2.1
theorem HdR.le {n : Nat} {l : List UInt8} {g e : Nat} (h : HdR n l g e) : e ≤ roomN n ∧ (g : Int) ≤ 2147483647 := by
  rcases h with h | h
  · exact ⟨h.2.2.2, h.2.2.1⟩
  · omega
theorem FdI.up {n : Nat} {S : List UInt8} {i : Nat} {b : Bool} {g e g' e' : Nat} (h : FdI n S i b g e) (hi : i < 2) (hd : HdR n (sec S (hN n (i == 1))) g' e') (hl : g < g') : FdI n S (i + 1) (i == 1) g' e' := by
  rcases h with ⟨rfl, rfl, rfl, rfl⟩ | ⟨rfl, g0, e0, h0, h1⟩ | ⟨rfl, -⟩
  · exact .inr (.inl ⟨rfl, g', e', hd, .inr ⟨by omega, rfl, rfl, rfl⟩⟩)
  · refine .inr (.inr ⟨rfl, g0, e0, g', e', h0, hd, .inl ⟨?_, rfl, rfl, rfl⟩⟩)
    rcases h1 with ⟨h1, -⟩ | ⟨-, -, rfl, -⟩
    · exact .inr h1
    · exact .inl hl
  · omega
theorem FdI.stay {n : Nat} {S : List UInt8} {i : Nat} {b : Bool} {g e g' e' : Nat} (h : FdI n S i b g e) (hi : i < 2) (hd : HdR n (sec S (hN n (i == 1))) g' e') (hl : ¬ g < g') : FdI n S (i + 1) b g e := by
  rcases h with ⟨rfl, rfl, rfl, rfl⟩ | ⟨rfl, g0, e0, h0, h1⟩ | ⟨rfl, -⟩
  · exact .inr (.inl ⟨rfl, g', e', hd, .inl ⟨by omega, rfl, rfl, rfl⟩⟩)
  · refine .inr (.inr ⟨rfl, g0, e0, g', e', h0, hd, ?_⟩)
    rcases h1 with ⟨h1, rfl, rfl, rfl⟩ | ⟨h2, rfl, rfl, rfl⟩
    · obtain rfl : g' = 0 := by omega
      exact .inl ⟨.inr h1, rfl, rfl, (hd.pos rfl).symm⟩
    · exact .inr ⟨by omega, h2, rfl, rfl, rfl⟩
  · omega
theorem FdI.le {n : Nat} {S : List UInt8} {i : Nat} {b : Bool} {g e : Nat} (h : FdI n S i b g e) : e ≤ roomN n ∧ (g : Int) ≤ 2147483647 := by
  rcases h with ⟨-, -, rfl, rfl⟩ | ⟨-, g0, e0, h0, h1⟩ | ⟨-, g0, e0, g1, e1, h0, h1, h2⟩
  · omega
  · rcases h1 with ⟨-, -, rfl, rfl⟩ | ⟨-, -, rfl, rfl⟩
    · omega
    · exact h0.le
  · rcases h2 with ⟨-, -, rfl, rfl⟩ | ⟨-, -, -, rfl, rfl⟩
    · exact h1.le
    · exact h0.le
/-- a half's row -/
def rowOf (n : Nat) (S : List UInt8) (b : Bool) : List UInt8 := (S.drop (64 * (hN n b + 1))).take (64 * (n / 2 - 1))
/-- behind readHead, in one form -/
theorem readHead_r {B a s k n : Nat} {D : Dm} {pv : Value} (w : World) (h : DmAt B a s k n D pv w) (h8 : 8 ≤ (n : Int)) (b : Bool) :
    Calls Try.prog 36 #[.pointer (some ⟨a, 0, none⟩), .bool b] w fun en w' => ∃ (g e : Nat) (q : Bool), en = .returned (.tuple #[.int .i64 (g : Int), .int .i64 (e : Int), .bool q]) ∧ Hid (Below w.heap.size w w' ∧ HdR n (sec D.seen (hN n b)) g e ∧ (q = false → g = 0)) := by
  refine (readHead_any w h h8 b _ rfl).mono ?_
  rintro en w' ⟨hb, ⟨g, e, rfl, hh⟩ | ⟨rfl, hh⟩⟩
  · exact ⟨g, e, true, rfl, hb, .inl hh, fun h => absurd h (by decide)⟩
  · exact ⟨0, 0, false, rfl, hb, .inr ⟨rfl, rfl, hh⟩, fun _ => rfl⟩
/-- behind found -/
structure FdPost (a n : Nat) (S : List UInt8) (w w' : World) (en : Ending) : Prop where
  bel : Below w.heap.size w w'
  ex : ∃ (j : Nat) (fv : Value) (J : Jr) (e : Nat) (ds : List Fr.Dat), en = .returned (.pointer (some ⟨j, 0, none⟩)) ∧ JrAt w.heap.size j a J fv w' ∧ FdIs n S J.second J.age e ∧ UnIs ((rowOf n S J.second).take e) J.age ds J.fr.length ∧ J.fr = flatA J.age ds ∧ J.fr.length ≤ roomN n
set_option maxHeartbeats 8000000 in
set_option maxRecDepth 60000 in
theorem found_any {B a s kk n : Nat} {D : Dm} {pv : Value} (w : World) (h : DmAt B a s kk n D pv w) (h8 : 8 ≤ (n : Int)) :
    Calls Try.prog 21 #[.pointer (some ⟨a, 0, none⟩)] w fun en w' => FdPost a n D.seen w w' en := by
  have hn := h.ok.n1
  have HH : Hid (DmAt B a s kk n D pv w) := h
  obtain ⟨W0, hW0⟩ : ∃ W0, W0 = (w.alloc (.cells #[.pointer (some ⟨a, 0, none⟩), .bool true, .int .i64 0, .slice none 0 0] 53)).alloc (.cells #[.bool false, .bool true] 4) := ⟨_, rfl⟩
  have hb0 : Below w.heap.size w W0 := by rw [hW0]; exact below2 (below_alloc _ _) (below_alloc _ _)
  have hs0 : W0.heap.size = w.heap.size + 2 := by rw [hW0, size_alloc, size_alloc]
  have hx0 : W0.heap[w.heap.size]? = some (.cells #[.pointer (some ⟨a, 0, none⟩), .bool true, .int .i64 0, .slice none 0 0] 53 (0, 0)) := by
    rw [hW0]
    exact ((below_alloc (w.alloc (.cells #[.pointer (some ⟨a, 0, none⟩), .bool true, .int .i64 0, .slice none 0 0] 53)) _).block w.heap.size (by rw [size_alloc]; omega)).trans (heap_alloc_new w _)
  have hy0 : W0.heap[w.heap.size + 1]? = some (.cells #[.bool false, .bool true] 4 (0, 0)) := by
    rw [hW0]
    have := heap_alloc_new (w.alloc (.cells #[.pointer (some ⟨a, 0, none⟩), .bool true, .int .i64 0, .slice none 0 0] 53)) (.cells #[.bool false, .bool true] 4)
    rwa [size_alloc] at this
  have HW : Hid (W0 = (w.alloc (.cells #[.pointer (some ⟨a, 0, none⟩), .bool true, .int .i64 0, .slice none 0 0] 53)).alloc (.cells #[.bool false, .bool true] 4)) := hW0
  have HST : Hid (Below w.heap.size w W0 ∧ W0.heap[w.heap.size]? = some (.cells (boxJ a ⟨true, 0, []⟩ (.slice none 0 0)) 53 (0, 0)) ∧ W0.heap[w.heap.size + 1]? = some (.cells #[.bool false, .bool true] 4 (0, 0)) ∧ FdI n D.seen 0 true 0 0) := ⟨hb0, hx0, hy0, .inl ⟨rfl, rfl, rfl, rfl⟩⟩
  clear h hW0 hb0 hx0 hy0
  go_enter Try.func21, Try.ntmps21
  go_wp2
  rw [← HW.out]
  go_loopw [4, 19] (fun en i wr => ∃ (k e : Nat), k ≤ 2 ∧ i = .int .i64 (k : Int) ∧ en = .int .i64 (e : Int) ∧ Hid (∃ (b : Bool) (g : Nat), Below w.heap.size w wr ∧ wr.heap[w.heap.size]? = some (.cells (boxJ a ⟨b, g, []⟩ (.slice none 0 0)) 53 (0, 0)) ∧ wr.heap[w.heap.size + 1]? = some (.cells #[.bool false, .bool true] 4 (0, 0)) ∧ FdI n D.seen k b g e)) (fun _ i _ => 2 - (intOf i).toNat)
  case atStart => exact ⟨0, 0, Nat.zero_le _, rfl, rfl, true, 0, HST.out⟩
  case round =>
    obtain ⟨k, e, hk, rfl, rfl, HI⟩ := hrel
    obtain ⟨b, g, hb, hx, hy, hI⟩ := HI.out
    clear HST HW
    by_cases hlt : k < 2
    · obtain ⟨half, hhalf⟩ : ∃ half : Bool, half = (k == 1) := ⟨_, rfl⟩
      have hyk : wr.cell? ⟨w.heap.size + 1, k, none⟩ = some (.bool half) := by
        rw [cell_of_heap hy, hhalf]
        have : k = 0 ∨ k = 1 := by omega
        rcases this with rfl | rfl <;> rfl
      have hk0 : (0 : Int) ≤ (k : Int) := by omega
      have hk1 : (k : Int) < 2 := by omega
      have HRH := readHead_r wr (HH.out.below hb) h8 half
      have HUP : Hid (∀ g' e', HdR n (sec D.seen (hN n half)) g' e' → g < g' → FdI n D.seen (k + 1) half g' e') := fun g' e' hd hl => by rw [hhalf] at hd ⊢; exact hI.up hlt hd hl
      have HSTAY : Hid (∀ g' e', HdR n (sec D.seen (hN n half)) g' e' → ¬ g < g' → FdI n D.seen (k + 1) b g e) := fun g' e' hd hl => by rw [hhalf] at hd; exact hI.stay hlt hd hl
      have HB : Hid (Below w.heap.size w wr) := hb
      have HX : Hid (wr.heap[w.heap.size]? = some (.cells (boxJ a ⟨b, g, []⟩ (.slice none 0 0)) 53 (0, 0))) := hx
      have HY : Hid (wr.heap[w.heap.size + 1]? = some (.cells #[.bool false, .bool true] 4 (0, 0))) := hy
      have hxl : w.heap.size < wr.heap.size := (Array.getElem?_eq_some_iff.1 hx).1
      have hyl : w.heap.size + 1 < wr.heap.size := (Array.getElem?_eq_some_iff.1 hy).1
      clear hb hx hy hI HI hhalf
      go_upto_region 7 with (go_at_call 36; refine HRH.mono ?_; rintro en w2 ⟨g', e', q, rfl, HE⟩)
      have hx2 : w2.heap[w.heap.size]? = some (.cells (boxJ a ⟨b, g, []⟩ (.slice none 0 0)) 53 (0, 0)) := (HE.out.1.block _ hxl).trans HX.out
      have hy2 : w2.heap[w.heap.size + 1]? = some (.cells #[.bool false, .bool true] 4 (0, 0)) := (HE.out.1.block _ hyl).trans HY.out
      have c1 : w2.cell? ⟨w.heap.size, 1, none⟩ = some (.bool b) := by rw [cell_of_heap hx2]; rfl
      have c2 : w2.cell? ⟨w.heap.size, 2, none⟩ = some (.int .i64 (g : Int)) := by rw [cell_of_heap hx2]; rfl
      have f1 : w2.frozen? ⟨w.heap.size, 1, none⟩ = false := frozen_of_heap hx2 1
      have f2 : w2.frozen? ⟨w.heap.size, 2, none⟩ = false := frozen_of_heap hx2 2
      have HB2 : Hid (Below w.heap.size w w2) := below2 HB.out HE.out.1
      by_cases hgg : g < g'
      · obtain rfl : q = true := by
          cases q
          · have := HE.out.2.2 rfl
            omega
          · rfl
        have hgi : (g : Int) < (g' : Int) := by omega
        have HN : Hid (∃ (b : Bool) (g : Nat), Below w.heap.size w ((w2.setCell ⟨w.heap.size, 1, none⟩ (.bool half)).setCell ⟨w.heap.size, 2, none⟩ (.int .i64 (g' : Int))) ∧ ((w2.setCell ⟨w.heap.size, 1, none⟩ (.bool half)).setCell ⟨w.heap.size, 2, none⟩ (.int .i64 (g' : Int))).heap[w.heap.size]? = some (.cells (boxJ a ⟨b, g, []⟩ (.slice none 0 0)) 53 (0, 0)) ∧ ((w2.setCell ⟨w.heap.size, 1, none⟩ (.bool half)).setCell ⟨w.heap.size, 2, none⟩ (.int .i64 (g' : Int))).heap[w.heap.size + 1]? = some (.cells #[.bool false, .bool true] 4 (0, 0)) ∧ FdI n D.seen (k + 1) b g e') := by
          refine ⟨half, g', (HB2.out.setCell (p := ⟨w.heap.size, 1, none⟩) (Nat.le_refl _) _).setCell (p := ⟨w.heap.size, 2, none⟩) (Nat.le_refl _) _, ?_, ?_, HUP.out g' e' HE.out.2.1 hgg⟩
          · exact heap_setCell_same (heap_setCell_same hx2 1 _) 2 _
          · exact (heap_setCell_ne _ _ _ _ (by omega)).trans ((heap_setCell_ne _ _ _ _ (by omega)).trans hy2)
        clear HE HB2 HUP HSTAY hx2 hy2 hgg HRH HX HY HB hyk
        go_wp2
        go_roundw
        case rel => exact ⟨k + 1, e', by omega, by go_num, rfl, HN⟩
        case measure => simp [intOf]; omega
      · have hgi : ¬ (g : Int) < (g' : Int) := by omega
        have HN : Hid (∃ (b : Bool) (g : Nat), Below w.heap.size w w2 ∧ w2.heap[w.heap.size]? = some (.cells (boxJ a ⟨b, g, []⟩ (.slice none 0 0)) 53 (0, 0)) ∧ w2.heap[w.heap.size + 1]? = some (.cells #[.bool false, .bool true] 4 (0, 0)) ∧ FdI n D.seen (k + 1) b g e) := ⟨b, g, HB2.out, hx2, hy2, HSTAY.out g' e' HE.out.2.1 hgg⟩
        clear HE HB2 HUP HSTAY hx2 hy2 hgg HRH HX HY HB hyk
        cases q
        · go_wp2
          go_roundw
          case rel => exact ⟨k + 1, e, by omega, by go_num, rfl, HN⟩
          case measure => simp [intOf]; omega
        · go_wp2
          go_roundw
          case rel => exact ⟨k + 1, e, by omega, by go_num, rfl, HN⟩
          case measure => simp [intOf]; omega
    · obtain rfl : k = 2 := by omega
      have hIle := hI.le
      have hFd : FdIs n D.seen b g e := by
        rcases hI with ⟨h, -⟩ | ⟨h, -⟩ | ⟨-, h⟩
        · omega
        · omega
        · exact h
      have hnlt : ¬ ((2 : Nat) : Int) < 2 := by decide
      have hJW : JW B w.heap.size a s kk n D pv ⟨b, g, []⟩ (.slice none 0 0) wr := ⟨HH.out.below hb, ⟨HH.out.low, hx, World.ownsRow_nil _ _ _ _⟩, fun g hg => by cases hg⟩
      have HJ := jHeadAt_any wr hJW
      have HJW : Hid (JW B w.heap.size a s kk n D pv ⟨b, g, []⟩ (.slice none 0 0) wr) := hJW
      have hhn : hN n b ≤ n / 2 := by unfold hN; split <;> omega
      have HRD : Hid (∀ w', Below wr.heap.size wr w' → Calls Try.prog 37 #[.pointer (some ⟨a, 0, none⟩), .int .i64 ((hN n b : Nat) + 1), .int .i64 (((n / 2 : Nat) : Int) - 1)] w' fun e w'' => ∃ g, e = .returned (.tuple #[.slice (some ⟨g, 0, none⟩) (roomN n) (roomN n), .int .i64 0]) ∧ Hid (w'.heap.size ≤ g ∧ w''.heap[g]? = some (.cells (cellsB (rowOf n D.seen b)).toArray 5 (0, 0)) ∧ Below w'.heap.size w' w'')) := fun w' hb' => by
        have := read_any w' (HJW.out.below hb').d (hN n b + 1) (n / 2 - 1) (by omega) (by omega) (rowOf n D.seen b) rfl
        rw [show ((hN n b + 1 : Nat) : Int) = (hN n b : Nat) + 1 by omega, show ((n / 2 - 1 : Nat) : Int) = ((n / 2 : Nat) : Int) - 1 by omega] at this
        refine this.mono ?_
        rintro en w'' ⟨g, rfl, h1, h2, h3⟩
        have hl : (rowOf n D.seen b).length = roomN n := by
          unfold rowOf roomN
          rw [List.length_take, List.length_drop, HH.out.ok.seen]
          omega
        rw [hl]
        exact ⟨g, rfl, h1, h2, h3⟩
      have HSC : Hid (∀ w', Below wr.heap.size wr w' → Calls Try.prog 20 #[.pointer (some ⟨a, 0, none⟩)] w' fun e w'' => e = .returned (.int .i64 (n : Int)) ∧ w'' = w') := fun w' hb' => sectors_any w' (HJW.out.below hb').d
      have e2 : (n : Int).tdiv 2 = ((n / 2 : Nat) : Int) := by rw [Int.tdiv_eq_ediv_of_nonneg (by omega)]; omega
      have hn2 : ((n / 2 : Nat) : Int) ≤ 4096 := by omega
      have hh2 : ((hN n b : Nat) : Int) ≤ 4096 := by omega
      have hxl : w.heap.size < wr.heap.size := (Array.getElem?_eq_some_iff.1 hx).1
      have HX : Hid (wr.heap[w.heap.size]? = some (.cells (boxJ a ⟨b, g, []⟩ (.slice none 0 0)) 53 (0, 0))) := hx
      have HB : Hid (Below w.heap.size w wr) := hb
      have HRL : Hid ((rowOf n D.seen b).length = roomN n) := by
        show _ = _
        unfold rowOf roomN
        rw [List.length_take, List.length_drop, HH.out.ok.seen]
        omega
      have HFD : Hid (FdIs n D.seen b g e) := hFd
      have HR5 : Hid (((roomN n : Nat) : Int) ≤ 262144) := roomN_le hn
      obtain ⟨hle1, hle2⟩ := hIle
      clear hx hy hI HI hJW hhn hb hFd hn
      generalize n / 2 = nh at *
      generalize hN n b = qh at *
      go_upto_region 11 with (first | (go_at_call 29; refine HJ.mono ?_; rintro en w5 ⟨rfl, hb5⟩) | (go_at_call 20; refine (HSC.out _ hb5).mono ?_; rintro en w5' ⟨rfl, rfl⟩) | (go_at_call 37; refine (HRD.out _ hb5).mono ?_; rintro en w6 ⟨g6, rfl, HG6⟩))
      have hb6 : Below wr.heap.size wr w6 := below2 hb5 HG6.out.2.2
      have hx6 : w6.heap[w.heap.size]? = some (.cells (boxJ a ⟨b, g, []⟩ (.slice none 0 0)) 53 (0, 0)) := (hb6.block _ hxl).trans HX.out
      have hxl6 : w.heap.size < w6.heap.size := (Array.getElem?_eq_some_iff.1 hx6).1
      have hg6l : g6 < w6.heap.size := (Array.getElem?_eq_some_iff.1 HG6.out.2.1).1
      have hg6 : w.heap.size < g6 := by have := HG6.out.1; have := hb5.size; omega
      have HK : Hid (∀ w', Below w6.heap.size w6 w' → w'.cell? ⟨w.heap.size, 2, none⟩ = some (.int .i64 (g : Int)) ∧ Below w6.heap.size w6 w') := fun w' hb' => ⟨(hb'.cell (p := ⟨w.heap.size, 2, none⟩) hxl6).trans (by rw [cell_of_heap hx6]; rfl), hb'⟩
      have HU : Hid (∀ w', Below w6.heap.size w6 w' → Calls Try.prog 31 #[.slice (some ⟨g6, 0, none⟩) e (roomN n), .int .i64 (g : Int)] w' fun en w'' => UnPost w' ((rowOf n D.seen b).take e) g en w'') := fun w' hb' => by
        refine unframed_any _ _ _ _ w' ?_ (by have := HR5.out; omega) g hle2
        have hr : Fr.RowAt w6 (some ⟨g6, 0, none⟩) (roomN n) (roomN n) (Fr.cellsB (rowOf n D.seen b)) := by
          refine ⟨by rw [Fr.cellsB_length]; exact HRL.out, Nat.le_refl _, by have := HR5.out; unfold maxLen; omega, .inr ⟨g6, 0, rfl, fun i hi => ?_⟩⟩
          rw [Nat.zero_add, cell_of_heap HG6.out.2.1]
          simp
          rfl
        have := (hr.take e hle1).below hb'
        rwa [Fr.cellsB_take] at this
      have HB6 : Hid (Below w.heap.size w w6) := below2 HB.out hb6
      have HX6 : Hid (w6.heap[w.heap.size]? = some (.cells (boxJ a ⟨b, g, []⟩ (.slice none 0 0)) 53 (0, 0))) := hx6
      have HGR : Hid (w6.heap[g6]? = some (.cells (cellsB (rowOf n D.seen b)).toArray 5 (0, 0))) := HG6.out.2.1
      have hR3 : (e : Int) ≤ ((roomN n : Nat) : Int) := by omega
      have he0 : (0 : Int) ≤ (e : Int) := by omega
      clear hx6 hb6 HG6 hb5 HJ HRD HSC HX HB HH HJW
      have hRL0 : Hid (rowOf n D.seen b = rowOf n D.seen b) := rfl
      generalize hRLd : rowOf n D.seen b = RL at *
      have hRL : Hid (RL = rowOf n D.seen b) := hRLd.symm
      clear hRLd hRL0
      generalize hRR : roomN n = RR at *
      go_region_held3 (fun w' => w'.cell? ⟨w.heap.size, 2, none⟩ = some (.int .i64 (g : Int)) ∧ Below w6.heap.size w6 w')
        (first | exact HK.out _ (below_drew _) | exact HK.out _ (below2 (below_drew _) (by assumption)))
        ((first | (go_at_call 31; refine (HU.out _ (by go_split_ands; assumption)).mono ?_; rintro en w7 ⟨hb7, v7, ps, ds, m, rfl, hown7, hds7, hU7, -⟩; clear hown7 hds7)))
      have hb67 : Below w6.heap.size w6 w7 := below2 (below_drew _) hb7
      obtain ⟨hok7, r7, hr7, hm7, hno7⟩ := hU7
      have htl : (RL.take e).length = e := by rw [List.length_take, HRL.out]; omega
      have hme : m ≤ e := by
        have := congrArg List.length hr7
        rw [htl, List.length_append] at this
        omega
      have hfr : flatA g ds = RL.take m := by
        have h1 : (RL.take e).take m = flatA g ds := by rw [hr7, hm7, List.take_left]
        rw [← h1, List.take_take, Nat.min_eq_left hme]
      have hx7 : w7.heap[w.heap.size]? = some (.cells (boxJ a ⟨b, g, []⟩ (.slice none 0 0)) 53 (0, 0)) := (hb67.block _ hxl6).trans HX6.out
      have hg7 : w7.heap[g6]? = some (.cells (cellsB RL).toArray 5 (0, 0)) := (hb67.block _ hg6l).trans HGR.out
      have hlf : (flatA g ds).length = m := hm7.symm
      have HOUT : Hid (FdPost a n D.seen w (w7.setCell ⟨w.heap.size, 3, none⟩ (.slice (some ⟨g6, 0, none⟩) m RR)) (.returned (.pointer (some ⟨w.heap.size, 0, none⟩)))) := by
        refine ⟨(below2 HB6.out hb67).setCell (p := ⟨w.heap.size, 3, none⟩) (Nat.le_refl _) _, w.heap.size, .slice (some ⟨g6, 0, none⟩) m RR, ⟨b, g, flatA g ds⟩, e, ds, rfl, ⟨Nat.le_refl _, heap_setCell_same hx7 3 _, ?_⟩, HFD.out, ⟨hok7, r7, ?_, rfl, hno7⟩, rfl, ?_⟩
        · show World.ownsRow _ w.heap.size 5 1 _ (flatA g ds).length (cellsB (flatA g ds))
          rw [hlf]
          refine ⟨by rw [cellsB_length, hlf, Nat.mul_one], .inr ⟨g6, RR, _, rfl, by omega, (heap_setCell_ne _ _ _ _ (by omega)).trans hg7, by omega, by have := HR5.out; unfold maxLen; omega, by simp [cellsB_length, HRL.out], ?_⟩⟩
          rw [hfr, ← cellsB_take, Nat.mul_one]
        · exact hRL.out ▸ hr7
        · show (flatA g ds).length ≤ roomN n
          rw [hlf]
          omega
      have c3 : w7.cell? ⟨w.heap.size, 3, none⟩ = some (.slice none 0 0) := by rw [cell_of_heap hx7]; rfl
      have f3 : w7.frozen? ⟨w.heap.size, 3, none⟩ = false := frozen_of_heap hx7 3
      have hm3 : (m : Int) ≤ (RR : Int) := by omega
      clear hok7 hr7 hm7 hno7 hfr hlf hx7 hg7 hb67 hb7 htl HK HU
      go_wp2
      go_ret
      exact HOUT.out
end Go.Proofs.Ytmkmogkhkmlnkaa.Dm
