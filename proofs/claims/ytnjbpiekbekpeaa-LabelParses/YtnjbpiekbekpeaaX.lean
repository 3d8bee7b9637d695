/-
  The contract of the answer's With.
-/
import Derived.Test.YtnjbpiekbekpeaaW
import Derived.Laws.OwnMore
namespace Go.Proofs.Ytnjbpiekbekpeaa
open Go.ChangeShapes Go.WideShapes Go.ChangeAt Go.RowKit
theorem ret_one {fn : Func} {p : Tmp} (h : fn.results = #[.cell p 24]) (tmps : Array Value) (w : World) (b : Nat) (x y : Value) (hp : tmps.getD p undef = .pointer (some ⟨b, 0, none⟩))
    (h0 : w.cell? ⟨b, 0, none⟩ = some x) (h1 : w.cell? ⟨b, 1, none⟩ = some y) : (results fn tmps).run Try.prog w = .ok (.agg #[x, y]) w := by
  simp only [Array.getD_eq_getD_getElem?] at hp
  simp only [results, h]
  simp [go_sem, hp, h0, h1]
def SerPost (w : World) (nm : ByteArray) (ls : List Lab) (e : Ending) (w' : World) : Prop := Below w.heap.size w w' ∧ ∃ val, e = .returned val ∧ SerAt w' val nm ls
set_option maxHeartbeats 8000000 in
set_option maxRecDepth 20000 in
theorem refWith_any (vs : Value) (nm : ByteArray) (ls : List Lab) (n v : ByteArray) (w : World) (h : SerAt w vs nm ls) (hn : n.size ≤ maxLen) (hv : v.size ≤ maxLen) (hM : MayS nm ls) :
    Calls Try.prog 24 #[vs, .string n, .string v] w fun e w' => SerPost w nm (ansL ls n v) e w' := by
  obtain ⟨a, len, cap, rfl, hL, hnm, hF⟩ := h
  have HNM : Hid (nm.size ≤ maxLen ∧ Fits (ansL ls n v)) := ⟨hnm, fun x hx => by
    rcases List.mem_append.1 ((ans_perm ls n v).subset hx) with h | h
    · exact hF x (List.mem_filter.1 h).1
    · split at h
      · simp at h
      · simp at h; subst h; exact ⟨hn, hv⟩⟩
  have hl : ls.length = len := hL.1
  have hl4 : len ≤ 4 := by have := hM.2.1; omega
  have HL : Hid (LabsAt w a len cap ls) := hL
  obtain ⟨i0, hi, hz0, hz1, hz2⟩ := info_parts info46
  clear hL hnm hF hn hv hM
  have B0 : Below w.heap.size w ((w.alloc (.cells #[.string nm, .slice a len cap] 24)).alloc (.cells #[.string ⟨#[]⟩, .slice none 0 0] 24)) := (below_alloc w _).alloc (by simp) _
  have HLIT := World.ownsRow_lit (base := w.heap.size + 2) (size := 2) (e := 46) ((w.alloc (.cells #[.string nm, .slice a len cap] 24)).alloc (.cells #[.string ⟨#[]⟩, .slice none 0 0] 24)) #[] 0 (by simp) (Nat.zero_le _) (by simp)
  generalize hw1 : (w.alloc (.cells #[.string nm, .slice a len cap] 24)).alloc (.cells #[.string ⟨#[]⟩, .slice none 0 0] 24) = w1 at *
  have a0 : w1.cell? ⟨w.heap.size, 0, none⟩ = some (.string nm) := by rw [← hw1]; simp
  have a1 : w1.cell? ⟨w.heap.size, 1, none⟩ = some (.slice a len cap) := by rw [← hw1]; simp
  have b0 : w1.cell? ⟨w.heap.size + 1, 0, none⟩ = some (.string ⟨#[]⟩) := by rw [← hw1]; simp
  have b1 : w1.cell? ⟨w.heap.size + 1, 1, none⟩ = some (.slice none 0 0) := by rw [← hw1]; simp
  have f0 : w1.frozen? ⟨w.heap.size + 1, 0, none⟩ = false := by rw [← hw1]; simp
  have f1 : w1.frozen? ⟨w.heap.size + 1, 1, none⟩ = false := by rw [← hw1]; simp
  have hs1 : w1.heap.size = w.heap.size + 2 := by rw [← hw1]; simp
  rw [← hs1] at HLIT
  have KB : Hid (∀ wr, Below w1.heap.size w1 wr → (wr.cell? ⟨w.heap.size, 0, none⟩ = some (.string nm) ∧ wr.cell? ⟨w.heap.size, 1, none⟩ = some (.slice a len cap)) ∧ (wr.cell? ⟨w.heap.size + 1, 0, none⟩ = some (.string ⟨#[]⟩) ∧ wr.cell? ⟨w.heap.size + 1, 1, none⟩ = some (.slice none 0 0)) ∧ (wr.frozen? ⟨w.heap.size + 1, 0, none⟩ = false ∧ wr.frozen? ⟨w.heap.size + 1, 1, none⟩ = false) ∧ Below w.heap.size w wr) := fun wr hb => by
    have h0 : w.heap.size < w1.heap.size := by omega
    have h1 : w.heap.size + 1 < w1.heap.size := by omega
    exact ⟨⟨(hb.cell (p := ⟨w.heap.size, 0, none⟩) h0).trans a0, (hb.cell (p := ⟨w.heap.size, 1, none⟩) h0).trans a1⟩, ⟨(hb.cell (p := ⟨w.heap.size + 1, 0, none⟩) h1).trans b0, (hb.cell (p := ⟨w.heap.size + 1, 1, none⟩) h1).trans b1⟩, ⟨(hb.frozen (p := ⟨w.heap.size + 1, 0, none⟩) h1).trans f0, (hb.frozen (p := ⟨w.heap.size + 1, 1, none⟩) h1).trans f1⟩, B0.trans (hb.mono (by omega))⟩
  have hbL : Below w1.heap.size w1 (w1.alloc (.cells #[] 46)) := below_alloc _ _
  have hE := empty_eq v
  clear a0 a1 b0 b1 f0 f1
  have HLIT' : Hid ((w1.alloc (.cells #[] 46)).ownsRow w1.heap.size 46 2 (.slice (some ⟨w1.heap.size, 0, none⟩) 0 0) ([] : List Lab).length (cellsLb [])) := HLIT
  clear HLIT
  go_enter Try.func24, Try.ntmps24
  go_wp2
  go_loopw [7, 8, 9] (fun l d i wr => ∃ (k : Nat) (out : List Lab) (dn : Bool), k ≤ len ∧ i = .int .i64 k ∧ d = .bool dn ∧ out.length ≤ 2 * k ∧ Hid (out ++ insL n v (ls.drop k) dn = ansL ls n v) ∧ Hid (wr.ownsRow w1.heap.size 46 2 l out.length (cellsLb out)) ∧ Below w1.heap.size w1 wr) (fun _ _ i _ => len - (intOf i).toNat)
  case atStart =>
    refine ⟨0, [], decide (v.size = 0), Nat.zero_le _, rfl, ?_, Nat.zero_le _, rfl, ?_, hbL⟩
    · rw [show decide (v = ByteArray.empty) = decide (v.size = 0) from decide_eq_decide.2 ⟨fun e => by rw [e]; rfl, fun e => sg_ext (by rw [sg_nil.2 e]; rfl)⟩]
    · first | exact HLIT' | (show World.ownsRow _ _ _ _ _ _ _; have := HLIT'.out; simp only [hs1] at this ⊢; exact this) | trace_state
  case round =>
    obtain ⟨k, out, dn, hk, rfl, rfl, ho2, hI, hown, hbel⟩ := hrel
    obtain ⟨⟨x0, x1⟩, ⟨y0, y1⟩, ⟨z0, z1⟩, hwr⟩ := KB.out wr hbel
    have hown0 := hown.out
    clear hown
    by_cases hlt : k < len
    · obtain ⟨b, off, rfl, hcell⟩ := HL.out.some (by omega)
      obtain ⟨e0w, e1w⟩ := hcell k hlt
      have hblt : b < w.heap.size := World.block_lt_of_cell? w ⟨b, off + k * 2, none⟩ e0w
      have hk0 : (0 : Int) ≤ (k : Int) := by omega
      have hk1 : (k : Int) < (len : Int) := by omega
      clear hcell
      have hD := drop_cons ls k (by omega)
      generalize ls.getD k lab0 = x at *
      obtain ⟨c1, c2⟩ := x
      have e0 : wr.cell? ⟨b, off + k * 2, none⟩ = some (.string c1) := (hwr.cell (p := ⟨b, off + k * 2, none⟩) hblt).trans e0w
      have e1 : wr.cell? ⟨b, off + k * 2 + 1, none⟩ = some (.string c2) := (hwr.cell (p := ⟨b, off + k * 2 + 1, none⟩) hblt).trans e1w
      have HD : Hid (ls.drop k = (c1, c2) :: ls.drop (k + 1)) := hD
      clear hD
      cases dn with
      | true =>
        by_cases hx : c1 = n
        · have HI0 : out ++ insL n v (ls.drop (k + 1)) true = ansL ls n v := by
            rw [← hI.out, HD.out]; simp [insL, hx]
          have hq : (!c1.toList == n.toList) = false := by rw [eqB, hx]; simp
          clear hI HD hx
          have HO : Hid _ := hown0
          have HI : Hid ((out) ++ insL n v (ls.drop (k + 1)) true = ansL ls n v) := HI0
          go_wp2
          exact ⟨⟨k + 1, _, true, by omega, by go_num, rfl, by first | omega | (simp; omega), HI, HO, hbel⟩, by simp [intOf]; omega⟩
        · have HI0 : Hid ((out ++ [(c1, c2)]) ++ insL n v (ls.drop (k + 1)) true = ansL ls n v) := by
            show _ = _
            rw [← hI.out, HD.out]; simp [insL, hx]
          have hq : (!c1.toList == n.toList) = true := by rw [eqB]; simp [hx]
          clear hI HD hx
          have hownB7 := own_alloc hown0 (.cells #[.string c1, .string c2] 46)
          have hsz7 := (hbel).size
          have hnews7 := cells_two wr (.string c1) (.string c2) 46
          go_wp2_with (at_builtin; refine wpList_append_own _ rfl _ _ 22 rfl w1.heap.size 46 i0 (.agg #[.string ⟨#[]⟩, .string ⟨#[]⟩]) 2 32 Try.underlying22 hi hz0 hz1 hz2 rfl (by decide) _ _ _ rfl hownB7 ⟨(wr).heap.size, 0, none⟩ 1 1 [.string c1, .string c2] rfl rfl hnews7 (one_two _ _) (by unfold maxLen; first | omega | (simp; omega)) (by first | omega | (simp; omega)) (by simp; omega) ?_)
          intro v7 w7 hown7' hgrow7 _
          rw [← hs1] at hown7'
          have hown7 : w7.ownsRow w1.heap.size 46 2 v7 (out ++ [(c1, c2)]).length (cellsLb (out ++ [(c1, c2)])) := by
            rw [cellsLb_snoc, List.length_append]
            exact hown7'
          have hb7 : Below w1.heap.size w1 w7 := ((hbel).alloc hsz7 _).grown hgrow7 (by simp; omega) (fun k hk => ((hown0).lt k hk).1)
          clear hown7' hgrow7 hownB7 hnews7
          obtain ⟨⟨x0, x1⟩, ⟨y0, y1⟩, ⟨z0, z1⟩, hw7⟩ := KB.out w7 hb7
          have HO : Hid _ := hown7
          have HI : Hid ((out ++ [(c1, c2)]) ++ insL n v (ls.drop (k + 1)) true = ansL ls n v) := HI0.out
          go_wp2
          exact ⟨⟨k + 1, _, true, by omega, by go_num, rfl, by first | omega | (simp; omega), HI, HO, hb7⟩, by simp [intOf]; omega⟩
      | false =>
        cases hc : ltB c1 n with
        | true =>
          have hx : ¬ c1 = n := fun e => by rw [e, ltB_irrefl] at hc; cases hc
          have HI0 : Hid ((out ++ [(c1, c2)]) ++ insL n v (ls.drop (k + 1)) false = ansL ls n v) := by
            show _ = _
            rw [← hI.out, HD.out]; simp [insL, hx, hc]
          have hq : (!c1.toList == n.toList) = true := by rw [eqB]; simp [hx]
          have hbl : Op.bytesLess c1.toList n.toList = true := hc
          clear hI HD hx hc
          have hownB7 := own_alloc hown0 (.cells #[.string c1, .string c2] 46)
          have hsz7 := (hbel).size
          have hnews7 := cells_two wr (.string c1) (.string c2) 46
          go_wp2_with (at_builtin; refine wpList_append_own _ rfl _ _ 22 rfl w1.heap.size 46 i0 (.agg #[.string ⟨#[]⟩, .string ⟨#[]⟩]) 2 32 Try.underlying22 hi hz0 hz1 hz2 rfl (by decide) _ _ _ rfl hownB7 ⟨(wr).heap.size, 0, none⟩ 1 1 [.string c1, .string c2] rfl rfl hnews7 (one_two _ _) (by unfold maxLen; first | omega | (simp; omega)) (by first | omega | (simp; omega)) (by simp; omega) ?_)
          intro v7 w7 hown7' hgrow7 _
          rw [← hs1] at hown7'
          have hown7 : w7.ownsRow w1.heap.size 46 2 v7 (out ++ [(c1, c2)]).length (cellsLb (out ++ [(c1, c2)])) := by
            rw [cellsLb_snoc, List.length_append]
            exact hown7'
          have hb7 : Below w1.heap.size w1 w7 := ((hbel).alloc hsz7 _).grown hgrow7 (by simp; omega) (fun k hk => ((hown0).lt k hk).1)
          clear hown7' hgrow7 hownB7 hnews7
          obtain ⟨⟨x0, x1⟩, ⟨y0, y1⟩, ⟨z0, z1⟩, hw7⟩ := KB.out w7 hb7
          have HO : Hid _ := hown7
          have HI : Hid ((out ++ [(c1, c2)]) ++ insL n v (ls.drop (k + 1)) false = ansL ls n v) := HI0.out
          go_wp2
          exact ⟨⟨k + 1, _, false, by omega, by go_num, rfl, by first | omega | (simp; omega), HI, HO, hb7⟩, by simp [intOf]; omega⟩
        | false =>
          have hbl : Op.bytesLess c1.toList n.toList = false := hc
          by_cases hx : c1 = n
          · have HI0 : Hid ((out ++ [(n, v)]) ++ insL n v (ls.drop (k + 1)) true = ansL ls n v) := by
              show _ = _
              rw [← hI.out, HD.out]; simp [insL, hx, ltB_irrefl]
            have hq : (!c1.toList == n.toList) = false := by rw [eqB, hx]; simp
            clear hI HD hx hc
            have hownB7 := own_alloc hown0 (.cells #[.string n, .string v] 46)
            have hsz7 := (hbel).size
            have hnews7 := cells_two wr (.string n) (.string v) 46
            go_wp2_with (at_builtin; refine wpList_append_own _ rfl _ _ 22 rfl w1.heap.size 46 i0 (.agg #[.string ⟨#[]⟩, .string ⟨#[]⟩]) 2 32 Try.underlying22 hi hz0 hz1 hz2 rfl (by decide) _ _ _ rfl hownB7 ⟨(wr).heap.size, 0, none⟩ 1 1 [.string n, .string v] rfl rfl hnews7 (one_two _ _) (by unfold maxLen; first | omega | (simp; omega)) (by first | omega | (simp; omega)) (by simp; omega) ?_)
            intro v7 w7 hown7' hgrow7 _
            rw [← hs1] at hown7'
            have hown7 : w7.ownsRow w1.heap.size 46 2 v7 (out ++ [(n, v)]).length (cellsLb (out ++ [(n, v)])) := by
              rw [cellsLb_snoc, List.length_append]
              exact hown7'
            have hb7 : Below w1.heap.size w1 w7 := ((hbel).alloc hsz7 _).grown hgrow7 (by simp; omega) (fun k hk => ((hown0).lt k hk).1)
            clear hown7' hgrow7 hownB7 hnews7
            obtain ⟨⟨x0, x1⟩, ⟨y0, y1⟩, ⟨z0, z1⟩, hw7⟩ := KB.out w7 hb7
            have e0' : w7.cell? ⟨b, off + k * 2, none⟩ = some (.string c1) := (hw7.cell (p := ⟨b, off + k * 2, none⟩) hblt).trans e0w
            have e1' : w7.cell? ⟨b, off + k * 2 + 1, none⟩ = some (.string c2) := (hw7.cell (p := ⟨b, off + k * 2 + 1, none⟩) hblt).trans e1w
            have HO : Hid _ := hown7
            have HI : Hid ((out ++ [(n, v)]) ++ insL n v (ls.drop (k + 1)) true = ansL ls n v) := HI0.out
            go_wp2
            exact ⟨⟨k + 1, _, true, by omega, by go_num, rfl, by first | omega | (simp; omega), HI, HO, hb7⟩, by simp [intOf]; omega⟩
          · have HI0 : Hid (((out ++ [(n, v)]) ++ [(c1, c2)]) ++ insL n v (ls.drop (k + 1)) true = ansL ls n v) := by
              show _ = _
              rw [← hI.out, HD.out]; simp [insL, hx, hc]
            have hq : (!c1.toList == n.toList) = true := by rw [eqB]; simp [hx]
            clear hI HD hx hc
            have hownB7 := own_alloc hown0 (.cells #[.string n, .string v] 46)
            have hsz7 := (hbel).size
            have hnews7 := cells_two wr (.string n) (.string v) 46
            go_wp2_with (at_builtin; refine wpList_append_own _ rfl _ _ 22 rfl w1.heap.size 46 i0 (.agg #[.string ⟨#[]⟩, .string ⟨#[]⟩]) 2 32 Try.underlying22 hi hz0 hz1 hz2 rfl (by decide) _ _ _ rfl hownB7 ⟨(wr).heap.size, 0, none⟩ 1 1 [.string n, .string v] rfl rfl hnews7 (one_two _ _) (by unfold maxLen; first | omega | (simp; omega)) (by first | omega | (simp; omega)) (by simp; omega) ?_)
            intro v7 w7 hown7' hgrow7 _
            rw [← hs1] at hown7'
            have hown7 : w7.ownsRow w1.heap.size 46 2 v7 (out ++ [(n, v)]).length (cellsLb (out ++ [(n, v)])) := by
              rw [cellsLb_snoc, List.length_append]
              exact hown7'
            have hb7 : Below w1.heap.size w1 w7 := ((hbel).alloc hsz7 _).grown hgrow7 (by simp; omega) (fun k hk => ((hown0).lt k hk).1)
            clear hown7' hgrow7 hownB7 hnews7
            obtain ⟨⟨x0, x1⟩, ⟨y0, y1⟩, ⟨z0, z1⟩, hw7⟩ := KB.out w7 hb7
            have e0' : w7.cell? ⟨b, off + k * 2, none⟩ = some (.string c1) := (hw7.cell (p := ⟨b, off + k * 2, none⟩) hblt).trans e0w
            have e1' : w7.cell? ⟨b, off + k * 2 + 1, none⟩ = some (.string c2) := (hw7.cell (p := ⟨b, off + k * 2 + 1, none⟩) hblt).trans e1w
            have hownB8 := own_alloc hown7 (.cells #[.string c1, .string c2] 46)
            have hsz8 := (hb7).size
            have hnews8 := cells_two w7 (.string c1) (.string c2) 46
            go_wp2_with (at_builtin; refine wpList_append_own _ rfl _ _ 22 rfl w1.heap.size 46 i0 (.agg #[.string ⟨#[]⟩, .string ⟨#[]⟩]) 2 32 Try.underlying22 hi hz0 hz1 hz2 rfl (by decide) _ _ _ rfl hownB8 ⟨(w7).heap.size, 0, none⟩ 1 1 [.string c1, .string c2] rfl rfl hnews8 (one_two _ _) (by unfold maxLen; first | omega | (simp; omega)) (by first | omega | (simp; omega)) (by simp; omega) ?_)
            intro v8 w8 hown8' hgrow8 _
            rw [← hs1] at hown8'
            have hown8 : w8.ownsRow w1.heap.size 46 2 v8 ((out ++ [(n, v)]) ++ [(c1, c2)]).length (cellsLb ((out ++ [(n, v)]) ++ [(c1, c2)])) := by
              rw [cellsLb_snoc, List.length_append, List.length_append]
              exact hown8'
            have hb8 : Below w1.heap.size w1 w8 := ((hb7).alloc hsz8 _).grown hgrow8 (by simp; omega) (fun k hk => ((hown7).lt k hk).1)
            clear hown8' hgrow8 hownB8 hnews8
            obtain ⟨⟨x0, x1⟩, ⟨y0, y1⟩, ⟨z0, z1⟩, hw8⟩ := KB.out w8 hb8
            have HO : Hid _ := hown8
            have HI : Hid (((out ++ [(n, v)]) ++ [(c1, c2)]) ++ insL n v (ls.drop (k + 1)) true = ansL ls n v) := HI0.out
            go_wp2
            exact ⟨⟨k + 1, _, true, by omega, by go_num, rfl, by first | omega | (simp; omega), HI, HO, hb8⟩, by simp [intOf]; omega⟩
    · obtain rfl : k = len := by omega
      have hDN : ls.drop k = [] := List.drop_eq_nil_of_le (by omega)
      cases dn with
      | true =>
        have HO : Hid (out = ansL ls n v) := by
          show _ = _
          rw [← hI.out, hDN]; simp [insL]
        obtain ⟨al, capl, e9, hL9⟩ := labs_own hown0
        subst e9
        have HS : Hid (SerAt wr (.agg #[.string nm, .slice al out.length capl]) nm (ansL ls n v)) := ⟨al, _, capl, rfl, by rw [← HO.out]; exact hL9, HNM.out.1, HNM.out.2⟩
        have HLOW : Hid (∀ x, al = some x → w1.heap.size ≤ x.block) := fun x hx => by subst hx; exact (hown0.lt x.block rfl).1
        clear hI hDN hown0 hL9
        go_wp2
        try simp only [Exit.inBlock, Exit.then]
        refine bodyPost_ret (ret_one rfl _ _ (w.heap.size + 1) _ _ rfl (two_set y0 y1 _ _).1 (two_set y0 y1 _ _).2) rfl ?_
        exact ⟨(hwr.setCell (show _ ≤ _ from Nat.le_succ _) _).setCell (show _ ≤ _ from Nat.le_succ _) _, _, rfl, ser_set HS.out rfl (fun x hx => by have := HLOW.out x hx; omega) _ _ _ _⟩
      | false =>
        have HO : Hid (out ++ [(n, v)] = ansL ls n v) := by
          show _ = _
          rw [← hI.out, hDN]; simp [insL]
        clear hI hDN
        have hownB7 := own_alloc hown0 (.cells #[.string n, .string v] 46)
        have hsz7 := (hbel).size
        have hnews7 := cells_two wr (.string n) (.string v) 46
        go_wp2_with (at_builtin; refine wpList_append_own _ rfl _ _ 22 rfl w1.heap.size 46 i0 (.agg #[.string ⟨#[]⟩, .string ⟨#[]⟩]) 2 32 Try.underlying22 hi hz0 hz1 hz2 rfl (by decide) _ _ _ rfl hownB7 ⟨(wr).heap.size, 0, none⟩ 1 1 [.string n, .string v] rfl rfl hnews7 (one_two _ _) (by unfold maxLen; first | omega | (simp; omega)) (by first | omega | (simp; omega)) (by simp; omega) ?_)
        intro v7 w7 hown7' hgrow7 _
        rw [← hs1] at hown7'
        have hown7 : w7.ownsRow w1.heap.size 46 2 v7 (out ++ [(n, v)]).length (cellsLb (out ++ [(n, v)])) := by
          rw [cellsLb_snoc, List.length_append]
          exact hown7'
        have hb7 : Below w1.heap.size w1 w7 := ((hbel).alloc hsz7 _).grown hgrow7 (by simp; omega) (fun k hk => ((hown0).lt k hk).1)
        clear hown7' hgrow7 hownB7 hnews7
        obtain ⟨⟨x0, x1⟩, ⟨y0, y1⟩, ⟨z0, z1⟩, hw7⟩ := KB.out w7 hb7
        obtain ⟨al, capl, e9, hL9⟩ := labs_own hown7
        subst e9
        have HS : Hid (SerAt w7 (.agg #[.string nm, .slice al (out ++ [(n, v)]).length capl]) nm (ansL ls n v)) := ⟨al, _, capl, rfl, by rw [← HO.out]; exact hL9, HNM.out.1, HNM.out.2⟩
        have HLOW : Hid (∀ x, al = some x → w1.heap.size ≤ x.block) := fun x hx => by subst hx; exact (hown7.lt x.block rfl).1
        clear hown0 hL9 hown7
        generalize (out ++ [(n, v)]).length = q at *
        go_wp2
        try simp only [Exit.inBlock, Exit.then]
        refine bodyPost_ret (ret_one rfl _ _ (w.heap.size + 1) _ _ rfl (two_set y0 y1 _ _).1 (two_set y0 y1 _ _).2) rfl ?_
        exact ⟨(hw7.setCell (show _ ≤ _ from Nat.le_succ _) _).setCell (show _ ≤ _ from Nat.le_succ _) _, _, rfl, ser_set HS.out rfl (fun x hx => by have := HLOW.out x hx; omega) _ _ _ _⟩
end Go.Proofs.Ytnjbpiekbekpeaa
