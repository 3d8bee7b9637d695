/-
  The contract of With: a series with a label's value.
-/
import Derived.Test.YtnjbpiekbekpeaaK
namespace Go.Proofs.Ytnjbpiekbekpeaa
open Go.ChangeShapes Go.WideShapes Go.ChangeAt Go.RowKit
def othersL (ls : List Lab) (n : ByteArray) : List Lab := ls.filter fun x => decide (x.1 ≠ n)
def newL (ls : List Lab) (n v : ByteArray) : List Lab := othersL ls n ++ (if v.size = 0 then [] else [(n, v)])
def GoodW (nm : ByteArray) (ls : List Lab) (n v : ByteArray) : Prop := MayS nm ls ∧ nameL (sg n) = true ∧ valL (sg v) = true
def WithPost (w : World) (nm : ByteArray) (ls : List Lab) (n v : ByteArray) (e : Ending) (w' : World) : Prop :=
  Below w.heap.size w w' ∧ ((¬ GoodW nm ls n v ∧ e = .returned (.tuple #[noSer, .int .i64 1])) ∨ (GoodW nm ls n v ∧ 4 < (newL ls n v).length ∧ e = .returned (.tuple #[noSer, .int .i64 6])) ∨
    (GoodW nm ls n v ∧ (newL ls n v).length ≤ 4 ∧ ∃ val ls', e = .returned (.tuple #[val, .int .i64 0]) ∧ SerAt w' val nm ls' ∧ ls'.Perm (newL ls n v) ∧ SortedL ls'))
theorem others_take {ls : List Lab} {n : ByteArray} {k : Nat} (hk : k < ls.length) : othersL (ls.take (k + 1)) n = othersL (ls.take k) n ++ (if (ls.getD k lab0).1 = n then [] else [ls.getD k lab0]) := by
  have e : ls.getD k lab0 = ls[k] := by simp [hk]
  rw [e, List.take_add_one, List.getElem?_eq_getElem hk]
  unfold othersL
  rw [List.filter_append]
  by_cases h : ls[k].1 = n
  · simp [h]
  · simp [h]
theorem own_alloc {w : World} {B : Nat} {v : Value} {n : Nat} {xs : List Value} (h : w.ownsRow B 46 2 v n xs) (o : Obj) : (w.alloc o).ownsRow B 46 2 v n xs := h.kept (World.grownBy_alloc w o none) (by cases hv : v.ownBlock <;> simp)
theorem with_ok {w w' : World} {nm : ByteArray} {ls : List Lab} {n v : ByteArray} {val : Value} {ls' : List Lab} (hb : Below w.heap.size w w') (hg : GoodW nm ls n v) (hl : (newL ls n v).length ≤ 4) (hs : SerAt w' val nm ls') (hp : ls'.Perm (newL ls n v)) (ho : SortedL ls') :
    WithPost w nm ls n v (.returned (.tuple #[val, .int .i64 0])) w' := ⟨hb, .inr (.inr ⟨hg, hl, val, ls', rfl, hs, hp, ho⟩)⟩
theorem with_bad {w w' : World} {nm : ByteArray} {ls : List Lab} {n v : ByteArray} (hb : Below w.heap.size w w') (hg : ¬ GoodW nm ls n v) : WithPost w nm ls n v (.returned (.tuple #[noSer, .int .i64 1])) w' := ⟨hb, .inl ⟨hg, rfl⟩⟩
theorem with_full {w w' : World} {nm : ByteArray} {ls : List Lab} {n v : ByteArray} (hb : Below w.heap.size w w') (hg : GoodW nm ls n v) (hl : 4 < (newL ls n v).length) : WithPost w nm ls n v (.returned (.tuple #[noSer, .int .i64 6])) w' := ⟨hb, .inr (.inl ⟨hg, hl, rfl⟩)⟩
/-- the sorted row reads as a series -/
theorem ser_sorted {w : World} {B : Nat} {a : Option Addr} {len cap : Nat} {nm : ByteArray} {L ls' : List Lab} (hown : w.ownsRow B 46 2 (.slice a len cap) len (cellsLb ls')) (hl : L.length = len) (hp : ls'.Perm L) (hn : nm.size ≤ maxLen) (hF : Fits L) : SerAt w (.agg #[.string nm, .slice a len cap]) nm ls' ∧ ∀ x, a = some x → B ≤ x.block := by
  have hll : ls'.length = len := by rw [← hl]; exact hp.length_eq
  have hown' : w.ownsRow B 46 2 (.slice a len cap) ls'.length (cellsLb ls') := by rw [hll]; exact hown
  obtain ⟨a6, cap6, e6, hL6⟩ := labs_own hown'
  injection e6 with e1 e2 e3
  subst e1 e3
  refine ⟨⟨a, len, cap, rfl, by rw [hll] at hL6; exact hL6, hn, fun x hx => hF x (hp.subset hx)⟩, fun x hx => ?_⟩
  subst hx
  exact (hown.lt x.block rfl).1
set_option maxHeartbeats 8000000 in
set_option maxRecDepth 20000 in
theorem with_any (vs : Value) (nm : ByteArray) (ls : List Lab) (n v : ByteArray) (w : World) (h : SerAt w vs nm ls) (hn : n.size ≤ maxLen) (hv : v.size ≤ maxLen) :
    Calls Try.prog 21 #[vs, .string n, .string v] w fun e w' => WithPost w nm ls n v e w' := by
  have H1 : Hid (SerAt w vs nm ls) := h
  obtain ⟨a, len, cap, rfl, hL, hnm, hF⟩ := h
  have HNM : Hid (nm.size ≤ maxLen ∧ Fits ls) := ⟨hnm, hF⟩
  have HNV : Hid (n.size ≤ maxLen ∧ v.size ≤ maxLen) := ⟨hn, hv⟩
  have hl : ls.length = len := hL.1
  have HL : Hid (LabsAt w a len cap ls) := hL
  obtain ⟨i0, hi, hz0, hz1, hz2⟩ := info_parts info46
  clear hL hnm hF hn hv
  go_enter Try.func21, Try.ntmps21
  go_wp2_with fail
  have B0 : Below w.heap.size w ((w.alloc (.cells #[.string nm, .slice a len cap] 24)).alloc (.cells #[.string ⟨#[]⟩, .slice none 0 0] 24)) := (below_alloc w _).alloc (by simp) _
  generalize hw1 : (w.alloc (.cells #[.string nm, .slice a len cap] 24)).alloc (.cells #[.string ⟨#[]⟩, .slice none 0 0] 24) = w1 at *
  have a0 : w1.cell? ⟨w.heap.size, 0, none⟩ = some (.string nm) := by rw [← hw1]; simp
  have a1 : w1.cell? ⟨w.heap.size, 1, none⟩ = some (.slice a len cap) := by rw [← hw1]; simp
  have b0 : w1.cell? ⟨w.heap.size + 1, 0, none⟩ = some (.string ⟨#[]⟩) := by rw [← hw1]; simp
  have b1 : w1.cell? ⟨w.heap.size + 1, 1, none⟩ = some (.slice none 0 0) := by rw [← hw1]; simp
  have f0 : w1.frozen? ⟨w.heap.size + 1, 0, none⟩ = false := by rw [← hw1]; simp
  have f1 : w1.frozen? ⟨w.heap.size + 1, 1, none⟩ = false := by rw [← hw1]; simp
  have hs1 : w1.heap.size = w.heap.size + 2 := by rw [← hw1]; simp
  clear hw1
  have KB : Hid (∀ wr, Below w1.heap.size w1 wr → (wr.cell? ⟨w.heap.size, 0, none⟩ = some (.string nm) ∧ wr.cell? ⟨w.heap.size, 1, none⟩ = some (.slice a len cap)) ∧ (wr.cell? ⟨w.heap.size + 1, 0, none⟩ = some (.string ⟨#[]⟩) ∧ wr.cell? ⟨w.heap.size + 1, 1, none⟩ = some (.slice none 0 0)) ∧ (wr.frozen? ⟨w.heap.size + 1, 0, none⟩ = false ∧ wr.frozen? ⟨w.heap.size + 1, 1, none⟩ = false) ∧ Below w.heap.size w wr) := fun wr hb => by
    have h0 : w.heap.size < w1.heap.size := by omega
    have h1 : w.heap.size + 1 < w1.heap.size := by omega
    exact ⟨⟨(hb.cell (p := ⟨w.heap.size, 0, none⟩) h0).trans a0, (hb.cell (p := ⟨w.heap.size, 1, none⟩) h0).trans a1⟩, ⟨(hb.cell (p := ⟨w.heap.size + 1, 0, none⟩) h1).trans b0, (hb.cell (p := ⟨w.heap.size + 1, 1, none⟩) h1).trans b1⟩, ⟨(hb.frozen (p := ⟨w.heap.size + 1, 0, none⟩) h1).trans f0, (hb.frozen (p := ⟨w.heap.size + 1, 1, none⟩) h1).trans f1⟩, B0.trans (hb.mono (by omega))⟩
  clear a0 a1 b0 b1 f0 f1
  refine (check_any _ nm ls _ (H1.out.below B0)).mono ?_
  rintro e w2 ⟨hb2, hc⟩
  obtain ⟨⟨x0, x1⟩, ⟨y0, y1⟩, ⟨z0, z1⟩, hw2⟩ := KB.out w2 hb2
  rcases hc with ⟨rfl, hM⟩ | ⟨rfl, hM⟩
  rotate_left
  · have HN : Hid (¬ GoodW nm ls n v) := fun h => hM h.1
    clear hM
    go_wp2
    try simp only [Exit.inBlock, Exit.then]
    refine bodyPost_ret (ret_pair rfl _ _ (w.heap.size + 1) _ _ rfl (two_set y0 y1 _ _).1 (two_set y0 y1 _ _).2) rfl ?_
    exact with_bad ((hw2.setCell (show _ ≤ _ from Nat.le_succ _) _).setCell (show _ ≤ _ from Nat.le_succ _) _) HN.out
  have HM : Hid (MayS nm ls) := hM
  have hl4 : len ≤ 4 := by have := hM.2.1; omega
  clear hM
  go_wp2_with fail
  refine (isName_any n _ HNV.out.1).mono ?_
  rintro e w3 ⟨rfl, hb3'⟩
  have hb3 := below2 hb2 hb3'
  clear x0 x1 y0 y1 z0 z1 hw2 hb2 hb3'
  obtain ⟨⟨x0, x1⟩, ⟨y0, y1⟩, ⟨z0, z1⟩, hw3⟩ := KB.out w3 hb3
  cases hnn : nameL (sg n) with
  | false =>
    have HN : Hid (¬ GoodW nm ls n v) := fun h => by have := h.2.1; rw [hnn] at this; cases this
    go_wp2
    try simp only [Exit.inBlock, Exit.then]
    refine bodyPost_ret (ret_pair rfl _ _ (w.heap.size + 1) _ _ rfl (two_set y0 y1 _ _).1 (two_set y0 y1 _ _).2) rfl ?_
    exact with_bad ((hw3.setCell (show _ ≤ _ from Nat.le_succ _) _).setCell (show _ ≤ _ from Nat.le_succ _) _) HN.out
  | true =>
    go_wp2_with fail
    refine (isValue_any v _ HNV.out.2).mono ?_
    rintro e w4 ⟨rfl, hb4'⟩
    have hb4 := below2 hb3 hb4'
    clear x0 x1 y0 y1 z0 z1 hw3 hb3 hb4'
    obtain ⟨⟨x0, x1⟩, ⟨y0, y1⟩, ⟨z0, z1⟩, hw4⟩ := KB.out w4 hb4
    cases hvv : valL (sg v) with
    | false =>
      have HN : Hid (¬ GoodW nm ls n v) := fun h => by have := h.2.2; rw [hvv] at this; cases this
      go_wp2
      try simp only [Exit.inBlock, Exit.then]
      refine bodyPost_ret (ret_pair rfl _ _ (w.heap.size + 1) _ _ rfl (two_set y0 y1 _ _).1 (two_set y0 y1 _ _).2) rfl ?_
      exact with_bad ((hw4.setCell (show _ ≤ _ from Nat.le_succ _) _).setCell (show _ ≤ _ from Nat.le_succ _) _) HN.out
    | true =>
      have HG : Hid (GoodW nm ls n v) := ⟨HM.out, hnn, hvv⟩
      clear hnn hvv
      go_wp2
      go_loopw [8, 28] (fun l i wr => ∃ (k : Nat) (F : List Lab), k ≤ len ∧ i = .int .i64 k ∧ Hid (F = othersL (ls.take k) n) ∧ Hid (wr.ownsRow w1.heap.size 46 2 l F.length (cellsLb F)) ∧ Below w1.heap.size w1 wr) (fun _ i _ => len - (intOf i).toNat)
      case atStart => exact ⟨0, [], Nat.zero_le _, rfl, by show _ = _; simp [othersL], World.ownsRow_nil _ _ _ _, hb4⟩
      case round =>
        obtain ⟨k, F, hk, rfl, hFk, hown, hbel⟩ := hrel
        obtain ⟨⟨x0, x1⟩, ⟨y0, y1⟩, ⟨z0, z1⟩, hwr⟩ := KB.out wr hbel
        have hF4 : F.length ≤ 4 := by
          rw [hFk.out]
          have h1 : (othersL (ls.take k) n).length ≤ (ls.take k).length := List.length_filter_le _ _
          rw [List.length_take] at h1
          omega
        by_cases hlt : k < len
        · obtain ⟨b, off, rfl, hcell⟩ := (HL.out.below hwr).some (by omega)
          obtain ⟨e0, e1⟩ := hcell k hlt
          have hk1 : (k : Int) < (len : Int) := by omega
          clear hcell
          have HTK : Hid (othersL (ls.take (k + 1)) n = othersL (ls.take k) n ++ (if (ls.getD k lab0).1 = n then [] else [ls.getD k lab0])) := others_take (by omega)
          generalize ls.getD k lab0 = x at *
          obtain ⟨c1, c2⟩ := x
          have hbA : Below w1.heap.size w1 (wr.alloc (.cells #[.string c1, .string c2] 46)) := hbel.alloc hbel.size _
          have hownA := own_alloc hown.out (.cells #[.string c1, .string c2] 46)
          by_cases hx : c1 = n
          · have HF : Hid (F = othersL (ls.take (k + 1)) n) := by show _ = _; rw [HTK.out, if_pos hx, List.append_nil]; exact hFk.out
            have hq : (!c1.toList == n.toList) = false := by rw [eqB, hx]; simp
            have HOA : Hid _ := hownA
            clear HTK hx hFk hown hownA
            go_wp2
            exact ⟨⟨k + 1, F, by omega, by go_num, HF, HOA, hbA⟩, by simp [intOf]; omega⟩
          · have HF : Hid (F ++ [(c1, c2)] = othersL (ls.take (k + 1)) n) := by show _ = _; rw [HTK.out, if_neg hx, ← hFk.out]
            have hq : (!c1.toList == n.toList) = true := by rw [eqB]; simp [hx]
            have hownB := own_alloc hownA (.cells #[.string c1, .string c2] 46)
            have hsA : (wr.alloc (.cells #[.string c1, .string c2] 46)).heap.size = wr.heap.size + 1 := by simp
            have hsz := hbel.size
            have hnews := cells_two (wr.alloc (.cells #[.string c1, .string c2] 46)) (.string c1) (.string c2) 46
            rw [hsA] at hnews
            clear HTK hx hFk
            go_wp2_with (at_builtin; refine wpList_append_own _ rfl _ _ 22 rfl w1.heap.size 46 i0 (.agg #[.string ⟨#[]⟩, .string ⟨#[]⟩]) 2 32 Try.underlying22 hi hz0 hz1 hz2 rfl (by decide) _ _ _ rfl hownB ⟨wr.heap.size + 1, 0, none⟩ 1 1 [.string c1, .string c2] rfl rfl hnews (one_two _ _) (by unfold maxLen; omega) (by omega) (by simp; omega) ?_)
            intro v7 w7 hown7 hgrow7 _
            rw [← hs1] at hown7
            have HO7 : Hid (w7.ownsRow w1.heap.size 46 2 v7 (F ++ [(c1, c2)]).length (cellsLb (F ++ [(c1, c2)]))) := by
              show w7.ownsRow _ _ _ _ _ _
              rw [cellsLb_snoc, List.length_append]
              exact hown7
            have hb7 : Below w1.heap.size w1 w7 := (hbA.alloc (by simp; omega) _).grown hgrow7 (by simp; omega) (fun k hk => (hownA.lt k hk).1)
            clear hown7 hgrow7 hownA hownB hown
            go_wp2
            exact ⟨⟨k + 1, _, by omega, by go_num, HF, HO7, hb7⟩, by simp [intOf]; omega⟩
        · obtain rfl : k = len := by omega
          have hFF : F = othersL ls n := by rw [hFk.out, List.take_of_length_le (by omega)]
          have HFF : Hid (F = othersL ls n) := hFF
          have hown0 := hown.out
          obtain ⟨al, capl, hlv⟩ := own_form hown0
          subst hlv
          have HFITF : Hid (Fits F) := fun x hx => by
            rw [hFF] at hx
            exact HNM.out.2 x (List.mem_filter.1 hx).1
          clear hFk hFF hown
          have hE := empty_eq v
          by_cases hv0 : v.size = 0
          · have HNEW : Hid (newL ls n v = F) := by show _ = _; simp [newL, hv0, HFF.out]
            have HFIT := HFITF
            simp only [hv0, decide_true] at hE
            have h4 : ¬ (4 : Int) < (F.length : Int) := by omega
            clear hv0
            go_wp2_with fail
            refine (sortLabels_any _ F _ hown0 (by omega)).mono ?_
            rintro e w5 ⟨rfl, ⟨ls', hperm, hsort, hown5⟩, hg5⟩
            have hb5' : Below w1.heap.size wr w5 := (Below.refl _ _).grown hg5 (hbel).size (fun k hk => ((hown0).lt k hk).1)
            have hb5 := (hbel).trans hb5'
            clear x0 x1 y0 y1 z0 z1
            obtain ⟨⟨x0, x1⟩, ⟨y0, y1⟩, ⟨z0, z1⟩, hw5⟩ := KB.out w5 hb5
            obtain ⟨hser, hlow⟩ := ser_sorted hown5 rfl hperm HNM.out.1 HFIT.out
            have HSER : Hid (SerAt w5 _ nm ls') := hser
            have HLOW : Hid (∀ x, al = some x → w1.heap.size ≤ x.block) := hlow
            have HPS : Hid (ls'.Perm (newL ls n v) ∧ SortedL ls') := ⟨by rw [HNEW.out]; exact hperm, hsort⟩
            clear hser hlow hperm hsort hown5 hg5 hb5'
            go_wp2
            try simp only [Exit.inBlock, Exit.then]
            refine bodyPost_ret (ret_pair rfl _ _ (w.heap.size + 1) _ _ rfl (two_set y0 y1 _ _).1 (two_set y0 y1 _ _).2) rfl ?_
            refine with_ok ((hw5.setCell (show _ ≤ _ from Nat.le_succ _) _).setCell (show _ ≤ _ from Nat.le_succ _) _) HG.out (by rw [HNEW.out]; exact hF4) (ser_set HSER.out rfl (fun x hx => by have := HLOW.out x hx; omega) _ _ _ _) HPS.out.1 HPS.out.2
          · have HNEW : Hid (newL ls n v = F ++ [(n, v)]) := by show _ = _; simp [newL, hv0, HFF.out]
            have HFIT : Hid (Fits (F ++ [(n, v)])) := fun x hx => by
              rcases List.mem_append.1 hx with hx | hx
              · exact HFITF.out x hx
              · simp at hx; subst hx; exact HNV.out
            simp only [hv0, decide_false] at hE
            have hownB := own_alloc hown0 (.cells #[.string n, .string v] 46)
            have hsz := hbel.size
            have hnews := cells_two wr (.string n) (.string v) 46
            clear hv0
            go_wp2_with (at_builtin; refine wpList_append_own _ rfl _ _ 22 rfl w1.heap.size 46 i0 (.agg #[.string ⟨#[]⟩, .string ⟨#[]⟩]) 2 32 Try.underlying22 hi hz0 hz1 hz2 rfl (by decide) _ _ _ rfl hownB ⟨wr.heap.size, 0, none⟩ 1 1 [.string n, .string v] rfl rfl hnews (one_two _ _) (by unfold maxLen; omega) (by omega) (by simp; omega) ?_)
            intro v7 w7 hown7 hgrow7 _
            rw [← hs1] at hown7
            have hb7 : Below w1.heap.size w1 w7 := (hbel.alloc hsz _).grown hgrow7 (by simp; omega) (fun k hk => (hown0.lt k hk).1)
            have hown8 : w7.ownsRow w1.heap.size 46 2 v7 (F ++ [(n, v)]).length (cellsLb (F ++ [(n, v)])) := by
              rw [cellsLb_snoc, List.length_append]
              exact hown7
            clear hown7 hgrow7 hownB hown0 x0 x1 y0 y1 z0 z1
            obtain ⟨⟨x0, x1⟩, ⟨y0, y1⟩, ⟨z0, z1⟩, hw7⟩ := KB.out w7 hb7
            obtain ⟨al, capl, hlv⟩ := own_form hown8
            subst hlv
            have hlen : (F ++ [(n, v)]).length = F.length + 1 := by simp
            by_cases h4 : F.length = 4
            · have h4i : (4 : Int) < (((F ++ [(n, v)]).length : Nat) : Int) := by omega
              have HG4 : Hid (4 < (newL ls n v).length) := by show _ < _; rw [HNEW.out]; omega
              generalize (F ++ [(n, v)]).length = q at *
              go_wp2
              try simp only [Exit.inBlock, Exit.then]
              refine bodyPost_ret (ret_pair rfl _ _ (w.heap.size + 1) _ _ rfl (two_set y0 y1 _ _).1 (two_set y0 y1 _ _).2) rfl ?_
              exact with_full ((hw7.setCell (show _ ≤ _ from Nat.le_succ _) _).setCell (show _ ≤ _ from Nat.le_succ _) _) HG.out HG4.out
            · have h4i : ¬ (4 : Int) < (((F ++ [(n, v)]).length : Nat) : Int) := by omega
              generalize hLL : F ++ [(n, v)] = LL at *
              have hLL4 : LL.length ≤ 4 := by omega
              clear hlen hLL h4
              go_wp2_with fail
              refine (sortLabels_any _ LL _ hown8 (by omega)).mono ?_
              rintro e w5 ⟨rfl, ⟨ls', hperm, hsort, hown5⟩, hg5⟩
              have hb5' : Below w1.heap.size w7 w5 := (Below.refl _ _).grown hg5 (hb7).size (fun k hk => ((hown8).lt k hk).1)
              have hb5 := (hb7).trans hb5'
              clear x0 x1 y0 y1 z0 z1
              obtain ⟨⟨x0, x1⟩, ⟨y0, y1⟩, ⟨z0, z1⟩, hw5⟩ := KB.out w5 hb5
              obtain ⟨hser, hlow⟩ := ser_sorted hown5 rfl hperm HNM.out.1 HFIT.out
              have HSER : Hid (SerAt w5 _ nm ls') := hser
              have HLOW : Hid (∀ x, al = some x → w1.heap.size ≤ x.block) := hlow
              have HPS : Hid (ls'.Perm (newL ls n v) ∧ SortedL ls') := ⟨by rw [HNEW.out]; exact hperm, hsort⟩
              clear hser hlow hperm hsort hown5 hg5 hb5'
              go_wp2
              try simp only [Exit.inBlock, Exit.then]
              refine bodyPost_ret (ret_pair rfl _ _ (w.heap.size + 1) _ _ rfl (two_set y0 y1 _ _).1 (two_set y0 y1 _ _).2) rfl ?_
              refine with_ok ((hw5.setCell (show _ ≤ _ from Nat.le_succ _) _).setCell (show _ ≤ _ from Nat.le_succ _) _) HG.out (by rw [HNEW.out]; omega) (ser_set HSER.out rfl (fun x hx => by have := HLOW.out x hx; omega) _ _ _ _) HPS.out.1 HPS.out.2
end Go.Proofs.Ytnjbpiekbekpeaa
