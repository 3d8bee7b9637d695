/-
  The contract of the answer's Order.
-/
import Derived.Test.YtmifdjkaclgibaaGreatDrQ
namespace Go.Proofs.YtmifdjkaclgibaaGreat.Dr
open Go.ChangeShapes Go.WideShapes Go.ChangeAt Go.RowKit
theorem intCells_snoc (l : List Int) (x : Int) : intCells (l ++ [x]) = intCells l ++ [.int .i64 x] := by
  unfold intCells; simp
/-- the choices that are left: those that came in, or a row of one's own -/
def CurAt (w wr : World) (a : Option Addr) (len cap : Nat) (cur : List Ch) : Prop :=
  cur.length = len ∧ (ChsAt w a len cap cur ∨ wr.ownsRow w.heap.size 33 2 (.slice a len cap) len (cellsC cur))
theorem CurAt.chs {w wr : World} {a : Option Addr} {len cap : Nat} {cur : List Ch} (h : CurAt w wr a len cap cur) (hb : Below w.heap.size w wr) : ChsAt wr a len cap cur := by
  rcases h.2 with h1 | h1
  · exact h1.below hb
  · exact chs_own h1 h.1
theorem CurAt.below {w wr wr' : World} {a : Option Addr} {len cap : Nat} {cur : List Ch} (h : CurAt w wr a len cap cur) (hb : Below wr.heap.size wr wr') : CurAt w wr' a len cap cur := by
  refine ⟨h.1, ?_⟩
  rcases h.2 with h1 | h1
  · exact .inl h1
  · exact .inr (own_below h1 hb)
theorem CurAt.grown {w wr wr' : World} {a : Option Addr} {len cap : Nat} {cur : List Ch} {v : Value} {n : Nat} {xs : List Value} (h : CurAt w wr a len cap cur) (hv : wr.ownsRow w.heap.size 3 1 v n xs) (hg : wr.grownBy wr' v.ownBlock) : CurAt w wr' a len cap cur := by
  refine ⟨h.1, ?_⟩
  rcases h.2 with h1 | h1
  · exact .inl h1
  · exact .inr (h1.kept hg (own_apart h1 hv (by decide)))
def SelPost (key : Nat) (ls : List Ch) (w : World) (e : Ending) (w' : World) : Prop :=
  Below w.heap.size w w' ∧ ∃ a cap, e = .returned (.slice a (selC (costOf key) ls.length ls).length cap) ∧ IntsAt w' a (selC (costOf key) ls.length ls) ∧ (selC (costOf key) ls.length ls).length ≤ 64 ∧ ∀ p : Addr, a = some p → w.heap.size ≤ p.block
theorem selC_len (cost : Int → Int) : ∀ (n : Nat) (l : List Ch), (selC cost n l).length ≤ n := by
  intro n
  induction n with
  | zero => intro l; exact Nat.le_refl _
  | succ n ih =>
    intro l
    cases h : bestC cost l with
    | none => rw [selC_none cost h]; simp
    | some a => rw [selC_some cost h]; simp; exact ih _
set_option maxHeartbeats 2000000 in
set_option maxRecDepth 60000 in
theorem refOrder_any (key : Nat) (a : Option Addr) (len cap : Nat) (ls : List Ch) (w : World) (hkey : key < 18446744073709551616) (h : ChsAt w a len cap ls) (hF : FitC ls) :
    Calls Tryz.prog 24 #[.int .u64 (key : Int), .slice a len cap] w fun e w' => SelPost key ls w e w' := by
  have hl : ls.length = len := h.1
  have h64 : (len : Int) ≤ 64 := by have := hF.1; omega
  have HLS : Hid (ls.length = len) := hl
  have HKEY : Hid (key < 18446744073709551616) := hkey
  obtain ⟨i0, hi, hz0, hz1, hz2⟩ := info_parts info3
  have HLIT : Hid ((w.alloc (.cells #[] 3)).ownsRow w.heap.size 3 1 (.slice (some ⟨w.heap.size, 0, none⟩) 0 0) ([] : List Int).length (intCells [])) := World.ownsRow_lit (base := w.heap.size) (size := 1) (e := 3) w #[] 0 (Nat.le_refl _) (Nat.zero_le _) (by simp)
  have HCUR : Hid (CurAt w (w.alloc (.cells #[] 3)) a len cap ls) := ⟨hl, .inl h⟩
  have HFIT : Hid (FitC ls) := hF
  have hb0 := below_alloc w (.cells #[] 3)
  clear h hF hkey hl
  go_enter Tryz.func24, Tryz.ntmps24
  go_wp2_with fail
  go_loopw [1, 5, 7] (fun l o i wr => ∃ (k : Nat) (out : List Int) (ac : Option Addr) (nc cc : Nat) (cur : List Ch), k ≤ len ∧ i = .int .i64 k ∧ l = .slice ac nc cc ∧ Hid (out ++ selC (costOf key) (len - k) cur = selC (costOf key) len ls) ∧ out.length ≤ k ∧ Hid (FitC cur) ∧ Hid (CurAt w wr ac nc cc cur) ∧ Hid (wr.ownsRow w.heap.size 3 1 o out.length (intCells out)) ∧ Below w.heap.size w wr) (fun _ _ i _ => len - (intOf i).toNat)
  case atStart => exact ⟨0, [], a, len, cap, ls, Nat.zero_le _, rfl, rfl, rfl, Nat.le_refl _, HFIT, HCUR, HLIT, hb0⟩
  case round =>
    obtain ⟨k, out, ac, nc, cc, cur, hk, rfl, rfl, hT, hok, hfit, hcur, hown, hbel⟩ := hrel
    by_cases hlt : k < len
    · have hk1 : (k : Int) < (len : Int) := by omega
      have HBC := refBest_any key ac nc cc cur wr HKEY.out (hcur.out.chs hbel) hfit.out
      obtain ⟨m, hm⟩ : ∃ m, len - k = m + 1 := ⟨len - k - 1, by omega⟩
      cases hbst : bestC (costOf key) cur with
      | none =>
        rw [hbst] at HBC
        have HE : Hid (out = selC (costOf key) len ls) := by
          have := hT.out
          rw [hm, selC_none _ hbst, List.append_nil] at this
          exact this
        have HB : Hid (Calls Tryz.prog 35 #[.int .u64 (key : Int), .slice ac nc cc] wr fun e w' => Below wr.heap.size wr w' ∧ e = .returned (.tuple #[.int .i64 0, .bool false])) := HBC
        obtain ⟨ao, co, he, -⟩ := own_slice hown.out
        clear HBC hT hm hbst
        go_wp2_with (go_at_call 35; refine HB.out.mono ?_; rintro e w2 ⟨hb2, rfl⟩)
        go_ret
        subst he
        rw [HE.out] at hown
        refine ⟨below2 hbel hb2, ao, co, ?_, ?_, ?_, fun p hp => (hown.out.lt p.block (by rw [hp]; rfl)).1⟩
        · rw [HLS.out, ← HE.out]
          rfl
        · rw [HLS.out]
          exact (ints_own hown.out rfl).below hb2
        · rw [HLS.out]
          have := selC_len (costOf key) len ls
          omega
      | some x =>
        rw [hbst] at HBC
        obtain ⟨x1, x2⟩ := x
        have HE : Hid ((out ++ [x1]) ++ selC (costOf key) (len - (k + 1)) (cur.filter fun c => decide (c.1 ≠ x1)) = selC (costOf key) len ls) := by
          have := hT.out
          rw [hm, selC_some _ hbst] at this
          rw [show len - (k + 1) = m by omega, List.append_assoc]
          exact this
        have HB : Hid (Calls Tryz.prog 35 #[.int .u64 (key : Int), .slice ac nc cc] wr fun e w' => Below wr.heap.size wr w' ∧ e = .returned (.tuple #[.int .i64 x1, .bool true])) := HBC
        have HFN : Hid (FitC (cur.filter fun c => decide (c.1 ≠ x1))) := ⟨Nat.le_trans (List.length_filter_le _ _) hfit.out.1, fun c hc => hfit.out.2 c (List.mem_filter.1 hc).1⟩
        clear HBC hT hm hbst
        go_wp2_with fail
        refine HB.out.mono ?_
        rintro e w2 ⟨hb2, rfl⟩
        clear HB
        have hbel2 : Below w.heap.size w w2 := below2 hbel hb2
        have hown2 := own_below hown.out hb2
        have hcur2 := hcur.out.below hb2
        clear hown hcur hb2
        have hownB := own_alloc hown2 (.cells #[.int .i64 x1] 3)
        have hcurB := hcur2.below (below_alloc w2 (.cells #[.int .i64 x1] 3))
        have hsz := hbel2.size
        have hnews := cells_lit w2 [.int .i64 x1] 3
        have HCB : Hid (CurAt w (w2.alloc (.cells #[.int .i64 x1] 3)) ac nc cc cur) := hcurB
        clear hcurB hcur2
        go_wp2_with (at_builtin; refine wpList_append_own _ rfl _ _ 23 rfl w.heap.size 3 i0 (.int .i64 0) 1 8 Tryz.underlying23 hi hz0 hz1 hz2 rfl (by decide) _ _ _ rfl hownB ⟨w2.heap.size, 0, none⟩ 1 1 [.int .i64 x1] rfl rfl hnews (by intro u hu; simp at hu; subst hu; rfl) (by unfold maxLen; omega) (by omega) (by simp; omega) ?_)
        intro v7 w7 hown7' hg7 _
        have HC7 : Hid (CurAt w w7 ac nc cc cur) := HCB.out.grown hownB hg7
        have HO : Hid (w7.ownsRow w.heap.size 3 1 v7 (out ++ [x1]).length (intCells (out ++ [x1]))) := by
          rw [intCells_snoc, List.length_append]
          exact hown7'
        have hb7 : Below w.heap.size w w7 := (hbel2.alloc hsz _).grown hg7 (by simp; omega) (fun k hk => (hownB.lt k hk).1)
        clear hown7' hg7 hownB hnews hown2 HCB
        have HWO : Hid (Calls Tryz.prog 36 #[.slice ac nc cc, .int .i64 x1] w7 fun e w' => WoPost cur x1 w7 e w') := without_any ac nc cc cur x1 w7 (HC7.out.chs hb7) hfit.out.1
        go_wp2_with fail
        refine HWO.out.mono ?_
        rintro e w8 ⟨hb8, an, cn, rfl, hown8⟩
        clear HWO
        generalize (cur.filter fun c => decide (c.1 ≠ x1)) = nx at *
        have HO8 : Hid _ := own_below HO.out hb8
        have hb8' : Below w.heap.size w w8 := below2 hb7 hb8
        have HC8 : Hid (CurAt w w8 an nx.length cn nx) := ⟨rfl, .inr ⟨hown8.1, by
          rcases hown8.2 with h | ⟨g, cap', cu, hv, hB, rest⟩
          · exact .inl h
          · exact .inr ⟨g, cap', cu, hv, Nat.le_trans hb7.size hB, rest⟩⟩⟩
        clear hown8 HO HC7
        go_wp2_with fail
        exact ⟨⟨k + 1, _, an, _, cn, _, by omega, by go_num, rfl, HE, by simp; omega, HFN, HC8, HO8, hb8'⟩, by simp [intOf]; omega⟩
    · obtain rfl : k = len := by omega
      have HE : Hid (out = selC (costOf key) k ls) := by
        have := hT.out
        rw [Nat.sub_self, selC_zero, List.append_nil] at this
        exact this
      obtain ⟨ao, co, he, -⟩ := own_slice hown.out
      clear hT
      go_wp2_with fail
      go_ret
      subst he
      rw [HE.out] at hown
      refine ⟨hbel, ao, co, ?_, ?_, ?_, fun p hp => (hown.out.lt p.block (by rw [hp]; rfl)).1⟩
      · rw [HLS.out, ← HE.out]
        rfl
      · rw [HLS.out]
        exact ints_own hown.out rfl
      · rw [HLS.out]
        have := selC_len (costOf key) k ls
        omega
end Go.Proofs.YtmifdjkaclgibaaGreat.Dr
