/-
  The answer Coded.
-/
import Derived.Test.YtcdlkdbnlomghaaDoorBiTo
import Derived.Test.YtcdlkdbnlomghaaDoorBiV
namespace Go.Proofs.YtcdlkdbnlomghaaDoor.Bi
open Go.ChangeShapes Go.WideShapes Go.ChangeAt Go.RowKit
/-- append as one step of a region that draws -/
theorem append_op {w w0 : World} {o : Oper} {a : Act} {K : Act → World → Prop} {Q : Exit → Act → World → Prop} {t e by8 : Nat} {z : Value} (ht : Tryd.prog.underlying t = some (.slice e)) (hinfo : (Tryd.prog.info? e).map (fun i => (i.zero, i.size, i.bytes)) = some (some z, 1, by8)) (hz : z.cells.size = 1) (h24 : by8 ≤ 24) (s x : Operand)
    (ho : o.op = .call { callee := .builtin .append, args := #[s, x], argTypes := #[t, t] })
    (v : Value) (n : Nat) (L : List Value) (hs : a.eval s = v) (hown : w.ownsRow w0.heap.size e 1 v n L) (hb : Below w0.heap.size w0 w)
    (ad : Option Addr) (m c : Nat) (M : List Value) (hx : a.eval x = .slice ad m c) (hM : VsU w ad m c M) (h1 : ∀ u ∈ M, u.oneCell' = true) (hn : (n : Int) ≤ 100000) (hm : (m : Int) ≤ 100000)
    (h : ∀ v' w', w'.ownsRow w0.heap.size e 1 v' (n + m) (L ++ M) → Below w0.heap.size w0 w' → w.grownBy w' v.ownBlock → K (a.put o.dst v') w') : Oper.wp Tryd.prog o a w K Q := by
  obtain ⟨i0, hi, hz0, hz1, hz2⟩ := info_parts hinfo
  by_cases h0 : m = 0
  · subst h0
    have hM0 : M = [] := List.length_eq_zero_iff.1 hM.1
    subst hM0
    have hl : ∀ (x : Addr), (loadCells x 0).run Tryd.prog w = .ok #[] w := fun x => by simpa using run_loadCells_list (P := Tryd.prog) w x [] (by simp)
    have hrun : (Builtin.append_ #[t, t] o.type #[v, .slice ad 0 c]).run Tryd.prog w = .ok v w := by
      rcases hown.2 with ⟨rfl, rfl⟩ | ⟨g, cap, cur, rfl, _, _, hnc, _⟩ <;> cases ad <;> simp [Builtin.append_, run_underlying ht, sizeOf, typeInfo, Builtin.lenOf, Builtin.firstCells, storeCells, *]
    unfold Oper.wp
    simp [execOp, ho, resolve, invoke, builtin, hs, hx, hrun]
    exact (h v w (by rw [List.append_nil]; exact hown) hb ⟨rfl, rfl, rfl, Nat.le_refl _, fun _ _ _ => rfl⟩)
  · rcases hM.2.2.2 with hh | ⟨b, off, rfl, hc⟩
    · omega
    · refine wp_append_own _ s x t ho w0.heap.size e i0 z 1 by8 ht hi hz0 hz1 hz2 hz (by decide) v n L hs hown ⟨b, off, none⟩ m c M hx (by rw [hM.1]; omega) (fun j u hj => by rw [addr_add]; exact hc j u hj) h1 (by unfold maxLen; omega) (Nat.le_trans (Nat.mul_le_mul_left _ h24) (by omega)) hb.size ?_
      intro v' w' hown' hg _
      exact h v' w' hown' (hb.grown hg hb.size (fun k hk => (hown.lt k hk).1)) hg
theorem Ro.grown {w w2 : World} {g T : Nat} {l : List Value} {row : Option Nat} (h : Ro w g T l) (hg : w.grownBy w2 row) (hr : row ≠ some g) : Ro w2 g T l := h.kept (hg.block g h.lt fun e => hr e.symm)
theorem own_apart_ro {w : World} {B n b E T : Nat} {v : Value} {xs l : List Value} (ho : w.ownsRow B E 1 v n xs) (hx : Ro w b T l) (hT : T ≠ E) : v.ownBlock ≠ some b := by
  obtain ⟨_, ⟨rfl, _⟩ | ⟨g, cap, cur, rfl, _, hh, _⟩⟩ := ho
  · simp [Value.ownBlock]
  · intro e
    simp [Value.ownBlock] at e
    subst e
    unfold Ro at hx
    rw [hx] at hh
    simp at hh
    exact hT hh.2
theorem coded_head : ∀ c, c < 5 → low (hvT c) (hdT c) = List.replicate c true ++ (if c < 4 then [false] else []) := by decide
theorem wid_at : ∀ c, c < 5 → [Value.int .i64 0, .int .i64 7, .int .i64 12, .int .i64 20, .int .i64 64][c]? = some (.int .i64 ((wdT c : Nat) : Int)) := fun c hc => by
  rcases c with _ | _ | _ | _ | _ | c <;> first | rfl | omega
set_option maxHeartbeats 3000000 in
set_option maxRecDepth 60000 in
theorem coded_any (n : Int) (hn : inI n) (w : World) : Calls Tryd.prog 61 #[.int .i64 n] w fun e w' => BoPost (coded n) w e w' := by
  have HN := Hid.mk9 hn
  have HCl := Hid.mk9 (rclass_any n hn)
  obtain ⟨c, hc⟩ : ∃ c, c = clsU (foldN n) := ⟨_, rfl⟩
  have hc5 : c < 5 := by rw [hc]; exact clsU_lt _
  have hc9 : (c : Int) < 5 := by omega
  have HCd : Hid (coded n = List.replicate c true ++ (if c < 4 then [false] else []) ++ low (foldN n) (wdT c)) := by
    unfold Hid coded
    rw [← hc, coded_head c hc5]
  rw [← hc] at HCl
  have HC5 := Hid.mk9 hc5
  have HB := Hid.mk9 (below_alloc w (.cells #[.int .i64 0, .int .i64 7, .int .i64 12, .int .i64 20, .int .i64 64] 3))
  have HW := Hid.mk9 (Ro.new w 3 [.int .i64 0, .int .i64 7, .int .i64 12, .int .i64 20, .int .i64 64])
  clear hn hc
  go_enter Tryd.func61, Tryd.ntmps61
  go_upto_region 2 with fail
  generalize w.alloc (.cells #[.int .i64 0, .int .i64 7, .int .i64 12, .int .i64 20, .int .i64 64] 3) = w1 at *
  obtain ⟨G, hG⟩ : ∃ G, G = w.heap.size := ⟨_, rfl⟩
  have hG2 : Hid (G < w1.heap.size) := by rw [hG]; exact HW.out.lt
  rw [← hG] at HW
  rw [show (.slice (some ⟨w.heap.size, 0, none⟩) 5 5 : Value) = .slice (some ⟨G, 0, none⟩) 5 5 by rw [hG]]
  clear hG
  go_upto_region 3 with (go_at_call 63; refine (HCl.out _).mono ?_; rintro e w9 ⟨rfl, hw9⟩; obtain rfl := hw9.symm)
  have HO2 := Hid.mk9 (own_none w1 w.heap.size HB.out.size)
  have HB2 := Hid.mk9 (below2 HB.out (below_alloc w1 (.cells #[] 4)))
  have HW2 := Hid.mk9 (HW.out.below (below_alloc w1 (.cells #[] 4)))
  go_upto_region 4 with fail
  clear HB HW hG2
  generalize w1.alloc (.cells #[] 4) = w2 at *
  generalize w1.heap.size = Y at *
  go_wp2_with fail
  go_loopw [5, 6] (fun v i wr => ∃ j : Nat, i = .int .i64 (j : Int) ∧ Hid (j ≤ c) ∧ Hid (wr.ownsRow w.heap.size 4 1 v j (boV (List.replicate j true))) ∧ Hid (Below w.heap.size w wr ∧ Ro wr G 3 [.int .i64 0, .int .i64 7, .int .i64 12, .int .i64 20, .int .i64 64])) (fun v i _ => c - (intOf i).toNat)
  case atStart => exact ⟨0, rfl, Nat.zero_le _, HO2.out, HB2.out, HW2.out⟩
  case round =>
    obtain ⟨j, rfl, hj, ho, hs⟩ := hrel
    clear HO2 HB2 HW2
    by_cases hlt : j < c
    · have e4 : (j : Int) < (c : Int) := by omega
      have HLT := Hid.mk9 hlt
      have HOA := Hid.mk9 (own_below ho.out (below_alloc wr (.cells #[.bool true] 4)))
      have HBA := Hid.mk9 (below2 hs.out.1 (below_alloc wr (.cells #[.bool true] 4)))
      have HWA := Hid.mk9 (hs.out.2.below (below_alloc wr (.cells #[.bool true] 4)))
      have HLA := Hid.mk9 (own_lit wr true)
      clear hs ho hlt hj
      go_wp2_with (at_builtin; refine append_vu Tryd.underlying80 infoBo rfl (by decide) rfl _ _ rfl u5 j _ rfl HOA.out HBA.out _ 1 1 (boV [true]) rfl HLA.out (boV_one _) (by omega) (by decide) ?_; intro v7 w7 hown7 hb7 hg7; have HO7 := Hid.mk9 hown7; have HB7 := Hid.mk9 hb7; have HG7 := Hid.mk9 hg7; clear hown7 hb7 hg7)
      refine ⟨⟨j + 1, by go_num, HLT.out, ?_, HB7.out, HWA.out.grown HG7.out (own_apart_ro HOA.out HWA.out (by decide))⟩, by simp [intOf]; have := HLT.out; omega⟩
      have := HO7.out
      rwa [← boV_append, ← List.replicate_succ'] at this
    · have hjc : j = c := by have := hj.out; omega
      have e5 : (c : Int) ≤ (j : Int) := by omega
      have HO := Hid.mk9 ho.out
      rw [hjc] at HO
      have HBr := Hid.mk9 hs.out.1
      have HWr := Hid.mk9 hs.out.2
      obtain ⟨wd, hwd⟩ : ∃ wd, wd = wdT c := ⟨_, rfl⟩
      have HWi := Hid.mk9 (wid_at c hc5)
      rw [← hwd] at HWi
      have HWe := Hid.mk9 hwd
      have HWd : Hid (wd ≤ 64) := by unfold Hid; rw [hwd]; have := wdT_small hc5; omega
      have hwd9 : (wd : Int) ≤ 64 := by have := HWd.out; omega
      clear ho hs hlt hj hjc hwd hc5
      by_cases h4 : c < 4
      · have HCd4 : Hid ((if c < 4 then [false] else []) = [false]) := if_pos h4
        have e6 : (c : Int) < 4 := by omega
        have HOA := Hid.mk9 (own_below HO.out (below_alloc wr (.cells #[.bool false] 4)))
        have HBA := Hid.mk9 (below2 HBr.out (below_alloc wr (.cells #[.bool false] 4)))
        have HWA := Hid.mk9 (HWr.out.below (below_alloc wr (.cells #[.bool false] 4)))
        have HLA := Hid.mk9 (own_lit wr false)
        rw [HCd4.out] at HCd
        clear h4 HO HBr HWr
        go_upto_region 10 with (at_builtin; refine append_vu Tryd.underlying80 infoBo rfl (by decide) rfl _ _ rfl u5 c _ rfl HOA.out HBA.out _ 1 1 (boV [false]) rfl HLA.out (boV_one _) (by omega) (by decide) ?_; intro v7 w7 hown7 hb7 hg7; have HO7 := Hid.mk9 hown7; have HB7 := Hid.mk9 hb7; have HG7 := Hid.mk9 hg7; clear hown7 hb7 hg7)
        have HW9 := Hid.mk9 (HWA.out.grown HG7.out (own_apart_ro HOA.out HWA.out (by decide)))
        have HB9 := HB7
        have HO9 := HO7
        rw [← boV_append] at HO9
        clear HO7 HB7 HG7 HOA HBA HWA HLA
        have hS : (fun w' => Below w.heap.size w w' ∧ Ro w' G 3 [.int .i64 0, .int .i64 7, .int .i64 12, .int .i64 20, .int .i64 64]) w7.drew := ⟨below2 HB9.out (below_drew _), HW9.out.below (below_drew _)⟩
        have hO := own_below HO9.out (below_drew w7)
        refine held_start (S := fun w' => Below w.heap.size w w' ∧ Ro w' G 3 [.int .i64 0, .int .i64 7, .int .i64 12, .int .i64 20, .int .i64 64]) mixed9 ?_
        refine held_take (i := 0) (v := v7) rfl (by kernel_rfl) (fun _ _ _ h => h) (.inl ⟨rfl, fun w hS => ?_⟩) hS ?_
        · clear hS
          go_simp
        try simp only [Act.put, List.setIfInBounds_toArray, List.set_cons_zero, List.set_cons_succ]
        refine held_take (i := 1) (v := .int .i64 n) rfl (by kernel_rfl) (fun _ _ _ h => h) (.inl ⟨rfl, fun w hS => ?_⟩) hS ?_
        · clear hS
          go_simp
        try simp only [Act.put, List.setIfInBounds_toArray, List.set_cons_zero, List.set_cons_succ]
        refine held_take (i := 3) (v := .slice (some ⟨G, 0, none⟩) 5 5) rfl (by kernel_rfl) (fun _ _ _ h => h) (.inl ⟨rfl, fun w hS => ?_⟩) hS ?_
        · clear hS
          go_simp
        try simp only [Act.put, List.setIfInBounds_toArray, List.set_cons_zero, List.set_cons_succ]
        refine held_take (i := 4) (v := .int .i64 (c : Int)) rfl (by kernel_rfl) (fun _ _ _ h => h) (.inl ⟨rfl, fun w hS => ?_⟩) hS ?_
        · clear hS
          go_simp
        try simp only [Act.put, List.setIfInBounds_toArray, List.set_cons_zero, List.set_cons_succ]
        refine held_take (i := 5) (v := .pointer (some ⟨G, c, none⟩)) rfl (by kernel_rfl) (fun _ _ _ h => h) (.inl ⟨rfl, fun w hS => ?_⟩) hS ?_
        · clear hS
          go_simp
        try simp only [Act.put, List.setIfInBounds_toArray, List.set_cons_zero, List.set_cons_succ]
        refine held_take (i := 6) (v := .int .i64 (wd : Int)) rfl (by kernel_rfl) (fun _ _ _ h => h) (.inl ⟨rfl, fun w hS => ?_⟩) hS ?_
        · have q8 := hS.2.cell HWi.out
          go_simp
        try simp only [Act.put, List.setIfInBounds_toArray, List.set_cons_zero, List.set_cons_succ]
        refine held_one (i := 2) (by kernel_rfl) rfl rfl ?_
        intro K hK
        go_simp
        go_at_call 79
        refine (fold_any n HN.out _).mono ?_
        rintro en w3 ⟨rfl, hw3⟩
        obtain rfl := hw3.symm
        have hN := hS
        refine hK.out _ _ hN ?_
        clear hK hS
        have hS := hN
        clear hN
        try simp only [Act.put, List.setIfInBounds_toArray, List.set_cons_zero, List.set_cons_succ]
        refine held_one (i := 7) (by kernel_rfl) rfl rfl ?_
        intro K hK
        go_simp
        go_at_call 62
        refine (low_any (foldN n) wd _ HWd.out (foldN_in HN.out)).mono ?_
        rintro en w4 ⟨hb4, al, cl, rfl, hl4⟩
        have hO4 := own_below hO hb4
        have hN : (fun w' => Below w.heap.size w w' ∧ Ro w' G 3 [.int .i64 0, .int .i64 7, .int .i64 12, .int .i64 20, .int .i64 64]) w4 := ⟨below2 hS.1 hb4, hS.2.below hb4⟩
        have hll : (low (foldN n) wd).length = wd := low_len _ _
        rw [hll] at hl4 ⊢
        clear hO hb4
        refine hK.out _ _ hN ?_
        clear hK hS
        have hS := hN
        clear hN
        try simp only [Act.put, List.setIfInBounds_toArray, List.set_cons_zero, List.set_cons_succ]
        refine held_one (i := 8) (by kernel_rfl) rfl rfl ?_
        intro K hK
        refine append_op Tryd.underlying80 infoBo rfl (by decide) _ _ rfl v7 (c + 1) (boV (List.replicate c true ++ [false])) rfl hO4 hS.1 al wd cl (boV (low (foldN n) wd)) rfl hl4 (boV_one _) (by omega) (by omega) ?_
        intro v9 w9 ho9 hb9 hg9
        have hN : (fun w' => Below w.heap.size w w' ∧ Ro w' G 3 [.int .i64 0, .int .i64 7, .int .i64 12, .int .i64 20, .int .i64 64]) w9 := ⟨hb9, hS.2.grown hg9 (own_apart_ro hO4 hS.2 (by decide))⟩
        clear hg9
        refine hK.out _ _ hN ?_
        clear hK hS
        have hS := hN
        clear hN
        try simp only [Act.put, List.setIfInBounds_toArray, List.set_cons_zero, List.set_cons_succ]
        refine held_take (i := 9) (v := v9) rfl (by kernel_rfl) (fun _ _ _ h => h) (.inl ⟨rfl, fun w hS => ?_⟩) hS ?_
        · clear hS
          go_simp
        try simp only [Act.put, List.setIfInBounds_toArray, List.set_cons_zero, List.set_cons_succ]
        refine wpAnyH_done (by kernel_rfl) ?_ _
        refine NoPanic.normal ?_
        have HE : Hid (BoPost (coded n) w (.returned v9) w9) := BoPost.of_own (n := (c + 1) + wd) hb9 (by rw [HCd.out, ← HWe.out]; rw [← boV_append] at ho9; exact ho9) (by rw [HCd.out, ← HWe.out]; simp [low_len]; omega)
        clear ho9 hb9 hS hl4 hO4
        go_wp2_with fail
        go_ret
        exact HE.out
      · have HCd4 : Hid ((if c < 4 then [false] else []) = ([] : List Bool)) := if_neg h4
        have e6 : 4 ≤ (c : Int) := by omega
        rw [HCd4.out, List.append_nil] at HCd
        have HW9 := HWr
        have HB9 := HBr
        have HO9 := HO
        clear h4 HO HBr HWr
        go_upto_region 10 with fail
        have hS : (fun w' => Below w.heap.size w w' ∧ Ro w' G 3 [.int .i64 0, .int .i64 7, .int .i64 12, .int .i64 20, .int .i64 64]) wr.drew := ⟨below2 HB9.out (below_drew _), HW9.out.below (below_drew _)⟩
        have hO := own_below HO9.out (below_drew wr)
        refine held_start (S := fun w' => Below w.heap.size w w' ∧ Ro w' G 3 [.int .i64 0, .int .i64 7, .int .i64 12, .int .i64 20, .int .i64 64]) mixed9 ?_
        refine held_take (i := 0) (v := u5) rfl (by kernel_rfl) (fun _ _ _ h => h) (.inl ⟨rfl, fun w hS => ?_⟩) hS ?_
        · clear hS
          go_simp
        try simp only [Act.put, List.setIfInBounds_toArray, List.set_cons_zero, List.set_cons_succ]
        refine held_take (i := 1) (v := .int .i64 n) rfl (by kernel_rfl) (fun _ _ _ h => h) (.inl ⟨rfl, fun w hS => ?_⟩) hS ?_
        · clear hS
          go_simp
        try simp only [Act.put, List.setIfInBounds_toArray, List.set_cons_zero, List.set_cons_succ]
        refine held_take (i := 3) (v := .slice (some ⟨G, 0, none⟩) 5 5) rfl (by kernel_rfl) (fun _ _ _ h => h) (.inl ⟨rfl, fun w hS => ?_⟩) hS ?_
        · clear hS
          go_simp
        try simp only [Act.put, List.setIfInBounds_toArray, List.set_cons_zero, List.set_cons_succ]
        refine held_take (i := 4) (v := .int .i64 (c : Int)) rfl (by kernel_rfl) (fun _ _ _ h => h) (.inl ⟨rfl, fun w hS => ?_⟩) hS ?_
        · clear hS
          go_simp
        try simp only [Act.put, List.setIfInBounds_toArray, List.set_cons_zero, List.set_cons_succ]
        refine held_take (i := 5) (v := .pointer (some ⟨G, c, none⟩)) rfl (by kernel_rfl) (fun _ _ _ h => h) (.inl ⟨rfl, fun w hS => ?_⟩) hS ?_
        · clear hS
          go_simp
        try simp only [Act.put, List.setIfInBounds_toArray, List.set_cons_zero, List.set_cons_succ]
        refine held_take (i := 6) (v := .int .i64 (wd : Int)) rfl (by kernel_rfl) (fun _ _ _ h => h) (.inl ⟨rfl, fun w hS => ?_⟩) hS ?_
        · have q8 := hS.2.cell HWi.out
          go_simp
        try simp only [Act.put, List.setIfInBounds_toArray, List.set_cons_zero, List.set_cons_succ]
        refine held_one (i := 2) (by kernel_rfl) rfl rfl ?_
        intro K hK
        go_simp
        go_at_call 79
        refine (fold_any n HN.out _).mono ?_
        rintro en w3 ⟨rfl, hw3⟩
        obtain rfl := hw3.symm
        have hN := hS
        refine hK.out _ _ hN ?_
        clear hK hS
        have hS := hN
        clear hN
        try simp only [Act.put, List.setIfInBounds_toArray, List.set_cons_zero, List.set_cons_succ]
        refine held_one (i := 7) (by kernel_rfl) rfl rfl ?_
        intro K hK
        go_simp
        go_at_call 62
        refine (low_any (foldN n) wd _ HWd.out (foldN_in HN.out)).mono ?_
        rintro en w4 ⟨hb4, al, cl, rfl, hl4⟩
        have hO4 := own_below hO hb4
        have hN : (fun w' => Below w.heap.size w w' ∧ Ro w' G 3 [.int .i64 0, .int .i64 7, .int .i64 12, .int .i64 20, .int .i64 64]) w4 := ⟨below2 hS.1 hb4, hS.2.below hb4⟩
        have hll : (low (foldN n) wd).length = wd := low_len _ _
        rw [hll] at hl4 ⊢
        clear hO hb4
        refine hK.out _ _ hN ?_
        clear hK hS
        have hS := hN
        clear hN
        try simp only [Act.put, List.setIfInBounds_toArray, List.set_cons_zero, List.set_cons_succ]
        refine held_one (i := 8) (by kernel_rfl) rfl rfl ?_
        intro K hK
        refine append_op Tryd.underlying80 infoBo rfl (by decide) _ _ rfl u5 c (boV (List.replicate c true)) rfl hO4 hS.1 al wd cl (boV (low (foldN n) wd)) rfl hl4 (boV_one _) (by omega) (by omega) ?_
        intro v9 w9 ho9 hb9 hg9
        have hN : (fun w' => Below w.heap.size w w' ∧ Ro w' G 3 [.int .i64 0, .int .i64 7, .int .i64 12, .int .i64 20, .int .i64 64]) w9 := ⟨hb9, hS.2.grown hg9 (own_apart_ro hO4 hS.2 (by decide))⟩
        clear hg9
        refine hK.out _ _ hN ?_
        clear hK hS
        have hS := hN
        clear hN
        try simp only [Act.put, List.setIfInBounds_toArray, List.set_cons_zero, List.set_cons_succ]
        refine held_take (i := 9) (v := v9) rfl (by kernel_rfl) (fun _ _ _ h => h) (.inl ⟨rfl, fun w hS => ?_⟩) hS ?_
        · clear hS
          go_simp
        try simp only [Act.put, List.setIfInBounds_toArray, List.set_cons_zero, List.set_cons_succ]
        refine wpAnyH_done (by kernel_rfl) ?_ _
        refine NoPanic.normal ?_
        have HE : Hid (BoPost (coded n) w (.returned v9) w9) := BoPost.of_own (n := c + wd) hb9 (by rw [HCd.out, ← HWe.out]; rw [← boV_append] at ho9; exact ho9) (by rw [HCd.out, ← HWe.out]; simp [low_len]; try omega)
        clear ho9 hb9 hS hl4 hO4
        go_wp2_with fail
        go_ret
        exact HE.out
end Go.Proofs.YtcdlkdbnlomghaaDoor.Bi
