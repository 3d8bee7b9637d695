/-
  The law DrawMoves: the theorem of little moving.
-/
import Derived.Test.YtbconflmjdpolaaS
namespace Go.Proofs.Ytbconflmjdpolaa
open Go.ChangeShapes Go.WideShapes Go.ChangeAt Go.RowKit
theorem wasX_take {ls : List Ch} {k : Nat} (x : Ch) (h : k < ls.length) : wasX x (ls.take (k + 1)) = if (ls.getD k ch0).1 = x.1 then (ls.getD k ch0).2 else wasX x (ls.take k) := by
  rw [List.take_succ_eq_append_getElem h, getD_get h, wasX_snoc]
theorem take_snoc {ls : List Ch} {k : Nat} (h : k < ls.length) : ls.take (k + 1) = ls.take k ++ [ls.getD k ch0] := by
  rw [List.take_succ_eq_append_getElem h, getD_get h]
/-- how far one has come: what is put down, what the one weighed, whether it is put -/
def PutIs (x : Ch) (ls : List Ch) (k : Nat) (out : List Ch) (was : Int) (p : Bool) : Prop :=
  out = outX x (ls.take k) p ∧ was = wasX x (ls.take k) ∧ (p = false → ∀ c ∈ ls.take k, c.1 < x.1) ∧ (p = true → ∃ c ∈ ls.take k, x.1 ≤ c.1)
theorem put_start (x : Ch) (ls : List Ch) : PutIs x ls 0 [] 0 false := ⟨rfl, rfl, fun _ c hc => by simp at hc, fun h => by cases h⟩
section
variable {x : Ch} {ls : List Ch} {k : Nat} {out : List Ch} {was : Int} {c : Ch}
theorem put_less (h : PutIs x ls k out was false) (hk : k < ls.length) (hc : ls.getD k ch0 = c) (hl : c.1 < x.1) : PutIs x ls (k + 1) (out ++ [c]) was false := by
  obtain ⟨h1, h2, h3, _⟩ := h
  rw [outX_false] at h1
  refine ⟨by rw [outX_false, take_snoc hk, hc, h1], by rw [wasX_take x hk, hc, if_neg (by omega), h2], fun _ d hd => ?_, fun h => by cases h⟩
  rw [take_snoc hk, hc] at hd
  rcases List.mem_append.1 hd with hd | hd
  · exact h3 rfl d hd
  · simp at hd; rw [hd]; exact hl
theorem put_at (h : PutIs x ls k out was false) (hk : k < ls.length) (hc : ls.getD k ch0 = c) (he : c.1 = x.1) : PutIs x ls (k + 1) (out ++ [x]) c.2 true := by
  obtain ⟨h1, h2, h3, _⟩ := h
  rw [outX_false] at h1
  refine ⟨by rw [outX_true, take_snoc hk, hc, mergeX_at (h3 rfl) he, h1], by rw [wasX_take x hk, hc, if_pos he], (fun h => by cases h), fun _ => ⟨c, by rw [take_snoc hk, hc]; simp, by omega⟩⟩
theorem put_new (h : PutIs x ls k out was false) (hk : k < ls.length) (hc : ls.getD k ch0 = c) (hl : x.1 < c.1) : PutIs x ls (k + 1) (out ++ [x] ++ [c]) was true := by
  obtain ⟨h1, h2, h3, _⟩ := h
  rw [outX_false] at h1
  refine ⟨by rw [outX_true, take_snoc hk, hc, mergeX_new (h3 rfl) hl, h1], by rw [wasX_take x hk, hc, if_neg (by omega), h2], (fun h => by cases h), fun _ => ⟨c, by rw [take_snoc hk, hc]; simp, by omega⟩⟩
theorem put_more (hr : Rise ls) (h : PutIs x ls k out was true) (hk : k < ls.length) (hc : ls.getD k ch0 = c) : x.1 < c.1 := by
  obtain ⟨d, hd, hx⟩ := h.2.2.2 rfl
  have hr' : Rise (ls.take (k + 1)) := List.Pairwise.sublist (List.take_sublist _ _) hr
  rw [take_snoc hk, hc] at hr'
  unfold Rise at hr'
  have := (List.pairwise_append.1 hr').2.2 d hd c (by simp)
  omega
theorem put_on (h : PutIs x ls k out was true) (hk : k < ls.length) (hc : ls.getD k ch0 = c) (hl : x.1 < c.1) : PutIs x ls (k + 1) (out ++ [c]) was true := by
  obtain ⟨h1, h2, _, _⟩ := h
  rw [outX_true] at h1
  refine ⟨by rw [outX_true, take_snoc hk, hc, mergeX_on hl, h1], by rw [wasX_take x hk, hc, if_neg (by omega), h2], (fun h => by cases h), fun _ => ⟨c, by rw [take_snoc hk, hc]; simp, by omega⟩⟩
theorem put_end (h : PutIs x ls k out was true) (hk : ls.length ≤ k) : out = mergeX x ls ∧ was = wasX x ls := by
  obtain ⟨h1, h2, _⟩ := h
  rw [List.take_of_length_le hk] at h1 h2
  exact ⟨h1, h2⟩
theorem put_last (h : PutIs x ls k out was false) (hk : ls.length ≤ k) : out ++ [x] = mergeX x ls ∧ was = wasX x ls := by
  obtain ⟨h1, h2, h3, _⟩ := h
  rw [List.take_of_length_le hk] at h1 h2 h3
  refine ⟨?_, h2⟩
  rw [mergeX_end (h3 rfl), h1]
  rfl
end
/-- what the law looks at, at its end -/
def EndsC (x1 x2 was ai : Int) (aq : Bool) (bi : Int) (bq : Bool) : Prop :=
  (aq = true ∧ bq = true ∧ ai = bi) ∨ (aq = false ∧ bq = false) ∨ (aq = false ∧ bq = true ∧ bi = x1 ∧ was < x2) ∨ (aq = true ∧ bq = true ∧ ¬ ai = bi ∧ bi = x1 ∧ was < x2) ∨ (aq = true ∧ bq = false ∧ ai = x1 ∧ x2 < was) ∨ (aq = true ∧ bq = true ∧ ¬ ai = bi ∧ ai = x1 ∧ x2 < was)
theorem ends_of {x1 x2 was : Int} {r r' : Option Ch} (h : MovesC (x1, x2) was r r') : EndsC x1 x2 was (idO r) (isO r) (idO r') (isO r') := by
  unfold EndsC
  rcases h with ⟨a, b, rfl, rfl, e⟩ | ⟨rfl, rfl⟩ | h
  · exact .inl ⟨rfl, rfl, e⟩
  · exact .inr (.inl ⟨rfl, rfl⟩)
  · split at h
    · rename_i hl
      obtain ⟨b, rfl, e⟩ := h
      cases r with
      | none => exact .inr (.inr (.inl ⟨rfl, rfl, e, hl⟩))
      | some a =>
        by_cases hab : a.1 = b.1
        · exact .inl ⟨rfl, rfl, hab⟩
        · exact .inr (.inr (.inr (.inl ⟨rfl, rfl, hab, e, hl⟩)))
    · obtain ⟨a, rfl, e, hl⟩ := h
      cases r' with
      | none => exact .inr (.inr (.inr (.inr (.inl ⟨rfl, rfl, e, hl⟩))))
      | some b =>
        by_cases hab : a.1 = b.1
        · exact .inl ⟨rfl, rfl, hab⟩
        · exact .inr (.inr (.inr (.inr (.inr ⟨rfl, rfl, hab, e, hl⟩))))
set_option maxHeartbeats 1000000 in
set_option maxRecDepth 60000 in
/-- what is let go -/
theorem moves_idle (key : Nat) (a : Option Addr) (len cap : Nat) (ls : List Ch) (x1 x2 : Int) (w : World) (h : ChsAt w a len cap ls) (hG : 60 < len ∨ ¬ MayC ls ∨ ¬ InC (x1, x2)) :
    Calls Try.prog 5 #[.int .u64 (key : Int), .slice a len cap, .agg #[.int .i64 x1, .int .i64 x2]] w fun e w' => TruePost w e w' := by
  have hB0 : Below (w.alloc (.cells #[.int .i64 x1, .int .i64 x2] 37)).heap.size (w.alloc (.cells #[.int .i64 x1, .int .i64 x2] 37)) (w.alloc (.cells #[.int .i64 x1, .int .i64 x2] 37)) := Below.refl _ _
  have HA : Hid (∀ W, Below (w.alloc (.cells #[.int .i64 x1, .int .i64 x2] 37)).heap.size (w.alloc (.cells #[.int .i64 x1, .int .i64 x2] 37)) W → Calls Try.prog 7 #[] W fun e w' => e = .returned (.bool true) ∧ Below (w.alloc (.cells #[.int .i64 x1, .int .i64 x2] 37)).heap.size (w.alloc (.cells #[.int .i64 x1, .int .i64 x2] 37)) w') := awake_from
  have HFIN : Hid (∀ W, Below (w.alloc (.cells #[.int .i64 x1, .int .i64 x2] 37)).heap.size (w.alloc (.cells #[.int .i64 x1, .int .i64 x2] 37)) W → Below w.heap.size w W) := fun W hW => below2 (below_alloc _ _) hW
  have KB : Hid (∀ W, Below (w.alloc (.cells #[.int .i64 x1, .int .i64 x2] 37)).heap.size (w.alloc (.cells #[.int .i64 x1, .int .i64 x2] 37)) W → W.cell? ⟨w.heap.size, 0, none⟩ = some (.int .i64 x1) ∧ W.cell? ⟨w.heap.size, 1, none⟩ = some (.int .i64 x2)) := fun W hW =>
    ⟨(hW.cell (p := ⟨w.heap.size, 0, none⟩) (by simp)).trans (by simp), (hW.cell (p := ⟨w.heap.size, 1, none⟩) (by simp)).trans (by simp)⟩
  have h1 : ChsAt (w.alloc (.cells #[.int .i64 x1, .int .i64 x2] 37)) a len cap ls := h.below (below_alloc _ _)
  by_cases h60 : (60 : Int) < (len : Int)
  · clear h h1 hG
    go_enter Try.func5, Try.ntmps5
    go_wp2_with (go_at_call 7; refine (HA.out _ (by assumption)).mono ?_; rintro e w5 ⟨rfl, hb5⟩)
    go_ret
    exact ⟨rfl, HFIN.out _ (by assumption)⟩
  by_cases hM : MayC ls
  · have HMAY : Hid (∀ W, Below (w.alloc (.cells #[.int .i64 x1, .int .i64 x2] 37)).heap.size (w.alloc (.cells #[.int .i64 x1, .int .i64 x2] 37)) W → Calls Try.prog 11 #[.slice a len cap] W fun e w' => e = .returned (.bool true) ∧ Below (w.alloc (.cells #[.int .i64 x1, .int .i64 x2] 37)).heap.size (w.alloc (.cells #[.int .i64 x1, .int .i64 x2] 37)) w') := refMay_yes h1 hM
    have hI : ¬ InC (x1, x2) := by
      rcases hG with h | h | h
      · omega
      · exact absurd hM h
      · exact h
    have hI' : ¬ (0 ≤ x1 ∧ x1 ≤ 2147483647 ∧ 0 ≤ x2 ∧ x2 ≤ 65536) := hI
    clear h h1 hG hM hI
    by_cases q1 : x1 < 0
    · clear hI'
      go_enter Try.func5, Try.ntmps5
      go_wp2_with (first
        | (go_at_call 11; refine (HMAY.out _ (by assumption)).mono ?_; rintro e w2 ⟨rfl, hb2⟩; obtain ⟨xa, xb⟩ := KB.out w2 hb2)
        | (go_at_call 7; refine (HA.out _ (by assumption)).mono ?_; rintro e w5 ⟨rfl, hb5⟩))
      go_ret
      exact ⟨rfl, HFIN.out _ (by assumption)⟩
    by_cases q2 : 2147483648 ≤ x1
    · clear hI'
      go_enter Try.func5, Try.ntmps5
      go_wp2_with (first
        | (go_at_call 11; refine (HMAY.out _ (by assumption)).mono ?_; rintro e w2 ⟨rfl, hb2⟩; obtain ⟨xa, xb⟩ := KB.out w2 hb2)
        | (go_at_call 7; refine (HA.out _ (by assumption)).mono ?_; rintro e w5 ⟨rfl, hb5⟩))
      go_ret
      exact ⟨rfl, HFIN.out _ (by assumption)⟩
    by_cases q3 : x2 < 0
    · clear hI'
      go_enter Try.func5, Try.ntmps5
      go_wp2_with (first
        | (go_at_call 11; refine (HMAY.out _ (by assumption)).mono ?_; rintro e w2 ⟨rfl, hb2⟩; obtain ⟨xa, xb⟩ := KB.out w2 hb2)
        | (go_at_call 7; refine (HA.out _ (by assumption)).mono ?_; rintro e w5 ⟨rfl, hb5⟩))
      go_ret
      exact ⟨rfl, HFIN.out _ (by assumption)⟩
    have q4 : 65536 < x2 := by omega
    clear hI'
    go_enter Try.func5, Try.ntmps5
    go_wp2_with (first
      | (go_at_call 11; refine (HMAY.out _ (by assumption)).mono ?_; rintro e w2 ⟨rfl, hb2⟩; obtain ⟨xa, xb⟩ := KB.out w2 hb2)
      | (go_at_call 7; refine (HA.out _ (by assumption)).mono ?_; rintro e w5 ⟨rfl, hb5⟩))
    go_ret
    exact ⟨rfl, HFIN.out _ (by assumption)⟩
  · have HMAY : Hid (∀ W, Below (w.alloc (.cells #[.int .i64 x1, .int .i64 x2] 37)).heap.size (w.alloc (.cells #[.int .i64 x1, .int .i64 x2] 37)) W → Calls Try.prog 11 #[.slice a len cap] W fun e w' => e = .returned (.bool false) ∧ Below (w.alloc (.cells #[.int .i64 x1, .int .i64 x2] 37)).heap.size (w.alloc (.cells #[.int .i64 x1, .int .i64 x2] 37)) w') := refMay_no h1 hM
    clear h h1 hG hM
    go_enter Try.func5, Try.ntmps5
    go_wp2_with (first
      | (go_at_call 11; refine (HMAY.out _ (by assumption)).mono ?_; rintro e w2 ⟨rfl, hb2⟩; obtain ⟨xa, xb⟩ := KB.out w2 hb2)
      | (go_at_call 7; refine (HA.out _ (by assumption)).mono ?_; rintro e w5 ⟨rfl, hb5⟩))
    go_ret
    exact ⟨rfl, HFIN.out _ (by assumption)⟩
set_option maxHeartbeats 4000000 in
set_option maxRecDepth 60000 in
theorem moves_main (key : Nat) (a : Option Addr) (len cap : Nat) (ls : List Ch) (x1 x2 : Int) (w : World) (hkey : key < 18446744073709551616) (h : ChsAt w a len cap ls) (h60 : ¬ 60 < len) (hM : MayC ls) (hI : InC (x1, x2)) :
    Calls Try.prog 5 #[.int .u64 (key : Int), .slice a len cap, .agg #[.int .i64 x1, .int .i64 x2]] w fun e w' => TruePost w e w' := by
  obtain ⟨i0, hi, hz0, hz1, hz2⟩ := info_parts info37
  have hl : ls.length = len := h.1
  have HV0 := ends_of (moves (costOf key) (x := (x1, x2)) (l := ls) (fun i => (costOf_bound key i).1) hM (by omega) hI)
  have HMM : Hid (MayC (mergeX (x1, x2) ls)) := merge_may hM (by omega) hI
  have HM : Hid (MayC ls) := hM
  have HKEY : Hid (key < 18446744073709551616) := hkey
  have HAI : Hid (idO (bestC (costOf key) ls) = idO (bestC (costOf key) ls) ∧ isO (bestC (costOf key) ls) = isO (bestC (costOf key) ls)) := ⟨rfl, rfl⟩
  obtain ⟨ai, hai⟩ : ∃ ai, ai = idO (bestC (costOf key) ls) := ⟨_, rfl⟩
  obtain ⟨aq, haq⟩ : ∃ aq, aq = isO (bestC (costOf key) ls) := ⟨_, rfl⟩
  obtain ⟨bi, hbi⟩ : ∃ bi, bi = idO (bestC (costOf key) (mergeX (x1, x2) ls)) := ⟨_, rfl⟩
  obtain ⟨bq, hbq⟩ : ∃ bq, bq = isO (bestC (costOf key) (mergeX (x1, x2) ls)) := ⟨_, rfl⟩
  rw [← hai, ← haq, ← hbi, ← hbq] at HV0
  clear HAI
  have HAI : Hid (idO (bestC (costOf key) ls) = ai ∧ isO (bestC (costOf key) ls) = aq) := ⟨hai.symm, haq.symm⟩
  have HBI : Hid (idO (bestC (costOf key) (mergeX (x1, x2) ls)) = bi ∧ isO (bestC (costOf key) (mergeX (x1, x2) ls)) = bq) := ⟨hbi.symm, hbq.symm⟩
  have HV1 : Hid (EndsC x1 x2 (wasX (x1, x2) ls) ai aq bi bq) := HV0
  clear hai haq hbi hbq HV0
  obtain ⟨wb, hwb⟩ : ∃ wb, wb = (w.alloc (.cells #[.int .i64 x1, .int .i64 x2] 37)) := ⟨_, rfl⟩
  obtain ⟨X, hX⟩ : ∃ X, X = w.heap.size := ⟨_, rfl⟩
  have hB0 : Below wb.heap.size wb wb := Below.refl _ _
  have HA : Hid (∀ W, Below wb.heap.size wb W → Calls Try.prog 7 #[] W fun e w' => e = .returned (.bool true) ∧ Below wb.heap.size wb w') := awake_from
  have HFIN : Hid (∀ W, Below wb.heap.size wb W → Below w.heap.size w W) := fun W hW => below2 (by rw [hwb]; exact below_alloc _ _) hW
  have KB : Hid (∀ W, Below wb.heap.size wb W → W.cell? ⟨X, 0, none⟩ = some (.int .i64 x1) ∧ W.cell? ⟨X, 1, none⟩ = some (.int .i64 x2)) := fun W hW => by
    subst hwb
    subst hX
    exact ⟨(hW.cell (p := ⟨w.heap.size, 0, none⟩) (by simp)).trans (by simp), (hW.cell (p := ⟨w.heap.size, 1, none⟩) (by simp)).trans (by simp)⟩
  have hXl : X < wb.heap.size := by subst hwb; subst hX; simp
  have h1 : ChsAt wb a len cap ls := by subst hwb; exact h.below (below_alloc _ _)
  have HL : Hid (ChsAt wb a len cap ls) := h1
  have HMAY : Hid (∀ W, Below wb.heap.size wb W → Calls Try.prog 11 #[.slice a len cap] W fun e w' => e = .returned (.bool true) ∧ Below wb.heap.size wb w') := refMay_yes h1 hM
  obtain ⟨i1, i2, i3, i4⟩ : 0 ≤ x1 ∧ x1 ≤ 2147483647 ∧ 0 ≤ x2 ∧ x2 ≤ 65536 := hI
  have d1 : decide (x1 < 0) = false := decide_eq_false (by omega)
  have d2 : decide (2147483648 ≤ x1) = false := decide_eq_false (by omega)
  have d3 : decide (x2 < 0) = false := decide_eq_false (by omega)
  have d4 : decide (65536 < x2) = false := decide_eq_false (by omega)
  have d5 : ¬ (60 : Int) < (len : Int) := by omega
  have h60' : (len : Int) ≤ 60 := by omega
  clear h h1 hM hkey h60
  go_enter Try.func5, Try.ntmps5
  go_wp2_with fail
  rw [← hwb, ← hX]
  clear hwb hX
  refine (HMAY.out _ hB0).mono ?_
  rintro e w2 ⟨rfl, hb2⟩
  obtain ⟨xa, xb⟩ := KB.out w2 hb2
  clear HMAY
  have hs2 := hb2.size
  have HLIT : Hid ((w2.alloc (.cells #[] 37)).ownsRow wb.heap.size 37 2 (.slice (some ⟨w2.heap.size, 0, none⟩) 0 0) ([] : List Ch).length (cellsC [])) := World.ownsRow_lit (base := wb.heap.size) (size := 2) (e := 37) w2 #[] 0 hs2 (Nat.zero_le _) (by simp)
  have hbL : Below wb.heap.size wb (w2.alloc (.cells #[] 37)) := below2 hb2 (below_alloc _ _)
  go_wp2_with fail
  go_loopw [7, 8, 9, 10] (fun s1 s2 s3 i wr => ∃ (k : Nat) (out : List Ch) (was : Int) (p : Bool), k ≤ len ∧ s2 = .int .i64 was ∧ s3 = .bool p ∧ i = .int .i64 k ∧ out.length ≤ 2 * k ∧ Hid (PutIs (x1, x2) ls k out was p) ∧ Hid (wr.ownsRow wb.heap.size 37 2 s1 out.length (cellsC out)) ∧ Below wb.heap.size wb wr) (fun _ _ _ i _ => len - (intOf i).toNat)
  case atStart => exact ⟨0, [], 0, false, Nat.zero_le _, rfl, rfl, rfl, Nat.le_refl _, put_start (x1, x2) ls, HLIT, hbL⟩
  case round =>
    obtain ⟨k, out, was, p, hk, rfl, rfl, rfl, ho2, hT, hownH, hbel⟩ := hrel
    have hown := hownH.out
    clear hownH
    by_cases hlt : k < len
    · obtain ⟨b, off, rfl, hbs, hcell⟩ := HL.out.some (by omega)
      obtain ⟨e0, e1⟩ := hcell k hlt
      have hk1 : (k : Int) < (len : Int) := by omega
      have hk0 : (0 : Int) ≤ (k : Int) := by omega
      have hkl : k < ls.length := by omega
      clear hcell
      obtain ⟨c, hc⟩ : ∃ c, ls.getD k ch0 = c := ⟨_, rfl⟩
      rw [hc] at e0 e1
      obtain ⟨c1, c2⟩ := c
      have KC : Hid (∀ W, Below wb.heap.size wb W → W.cell? ⟨b, off + k * 2, none⟩ = some (.int .i64 c1) ∧ W.cell? ⟨b, off + k * 2 + 1, none⟩ = some (.int .i64 c2)) := fun W hW => ⟨(hW.cell (p := ⟨b, off + k * 2, none⟩) hbs).trans e0, (hW.cell (p := ⟨b, off + k * 2 + 1, none⟩) hbs).trans e1⟩
      have HCC : Hid (ls.getD k ch0 = (c1, c2)) := hc
      clear e0 e1 hc
      cases p with
      | false =>
        by_cases q1 : c1 < x1
        · have HY : Hid (PutIs (x1, x2) ls (k + 1) (out ++ [(c1, c2)]) was false) := put_less hT.out hkl HCC.out q1
          have hd1 : decide (x1 ≤ c1) = false := decide_eq_false (by omega)
          have hd2 : (c1 == x1) = false := beq_eq_false_iff_ne.2 (by omega)
          clear hT HCC
          have gap : ∀ n os, (Go.Sort.grow ((wr).drewN n) os).cell? ⟨b, off + k * 2, none⟩ = some (.int .i64 c1) := fun n os => (KC.out _ (below2 hbel (below_grow _ n os))).1
          have gbp : ∀ n os, (Go.Sort.grow ((wr).drewN n) os).cell? ⟨X, 0, none⟩ = some (.int .i64 x1) := fun n os => (KB.out _ (below2 hbel (below_grow _ n os))).1
          go_wp2_with fail
          refine wp_region_QW mixed5 (by kernel_rfl) ?_
          repeat (refine QW_step (fun K hK => ?_); go_simp; first | (refine hK _ ?_; clear hK K) | (apply Exists.intro; refine ⟨fun _ => ?_, hK _ ?_⟩; fail; clear hK K))
          refine QW_nil ?_
          intro _ hw9
          obtain ⟨⟨nq, osq⟩, hw8⟩ := hw9
          subst hw8
          show Exit.then _ _ _ _ (Go.Sort.grow ((wr).drewN nq) osq)
          have hbp : Below wb.heap.size wb (Go.Sort.grow ((wr).drewN nq) osq) := below2 hbel (below_grow _ nq osq)
          have hownp := own_below hown (below_grow wr nq osq)
          clear gap gbp
          generalize Go.Sort.grow ((wr).drewN nq) osq = wp at *
          obtain ⟨xap, xbp⟩ := KB.out wp hbp
          obtain ⟨yap, ybp⟩ := KC.out wp hbp
          have gaq : ∀ n os, (Go.Sort.grow ((wp).drewN n) os).cell? ⟨b, off + k * 2, none⟩ = some (.int .i64 c1) := fun n os => (KC.out _ (below2 hbp (below_grow _ n os))).1
          have gbq : ∀ n os, (Go.Sort.grow ((wp).drewN n) os).cell? ⟨X, 0, none⟩ = some (.int .i64 x1) := fun n os => (KB.out _ (below2 hbp (below_grow _ n os))).1
          go_wp2_with fail
          refine wp_region_QW mixed5 (by kernel_rfl) ?_
          repeat (refine QW_step (fun K hK => ?_); go_simp; first | (refine hK _ ?_; clear hK K) | (apply Exists.intro; refine ⟨fun _ => ?_, hK _ ?_⟩; fail; clear hK K))
          refine QW_nil ?_
          intro _ hw9
          obtain ⟨⟨nq, osq⟩, hw8⟩ := hw9
          subst hw8
          show Exit.then _ _ _ _ (Go.Sort.grow ((wp).drewN nq) osq)
          have hbq : Below wb.heap.size wb (Go.Sort.grow ((wp).drewN nq) osq) := below2 hbp (below_grow _ nq osq)
          have hownq := own_below hownp (below_grow wp nq osq)
          clear gaq gbq
          generalize Go.Sort.grow ((wp).drewN nq) osq = wq at *
          obtain ⟨xaq, xbq⟩ := KB.out wq hbq
          obtain ⟨yaq, ybq⟩ := KC.out wq hbq
          have hownBs := own_alloc hownq (.cells #[.int .i64 c1, .int .i64 c2] 37)
          have hszs := (hbq).size
          have hnewss := cells_lit wq (chCells (c1, c2)) 37
          have hw4s : wq.alloc (.cells (chCells (c1, c2)).toArray 37) = wq.alloc (.cells #[.int .i64 c1, .int .i64 c2] 37) := rfl
          rw [hw4s] at hnewss
          go_wp2_with (at_builtin; refine wpList_append_own _ rfl _ _ 23 rfl wb.heap.size 37 i0 (.agg #[.int .i64 0, .int .i64 0]) 2 16 Try.underlying23 hi hz0 hz1 hz2 rfl (by decide) _ _ _ rfl hownBs ⟨(wq).heap.size, 0, none⟩ 1 1 (chCells (c1, c2)) rfl rfl hnewss (by intro u hu; simp [chCells] at hu; rcases hu with rfl | rfl <;> rfl) (by unfold maxLen; first | omega | (simp; omega)) (by first | omega | (simp; omega)) (by simp; omega) ?_)
          intro vs ws howns' hgs _
          have howns : ws.ownsRow wb.heap.size 37 2 vs (out ++ [(c1, c2)]).length (cellsC (out ++ [(c1, c2)])) := by
            rw [cellsC_snoc, List.length_append]
            first | exact howns' | (rw [List.length_append]; exact howns')
          have hbs : Below wb.heap.size wb ws := ((hbq).alloc hszs _).grown hgs (by simp; omega) (fun k hk => ((hownq).lt k hk).1)
          clear howns' hgs hownBs hnewss hw4s
          obtain ⟨xas, xbs⟩ := KB.out ws hbs
          have HO : Hid _ := howns
          go_wp2_with fail
          exact ⟨⟨k + 1, _, was, false, by omega, rfl, rfl, by go_num, by first | omega | (simp; omega), HY, HO, hbs⟩, by simp [intOf]; omega⟩
        by_cases q2 : c1 = x1
        · have HY : Hid (PutIs (x1, x2) ls (k + 1) (out ++ [(x1, x2)]) c2 true) := put_at hT.out hkl HCC.out q2
          have hd1 : decide (x1 ≤ c1) = true := decide_eq_true (by omega)
          have hd2 : (c1 == x1) = true := by rw [q2]; simp
          clear hT HCC
          have gap : ∀ n os, (Go.Sort.grow ((wr).drewN n) os).cell? ⟨b, off + k * 2, none⟩ = some (.int .i64 c1) := fun n os => (KC.out _ (below2 hbel (below_grow _ n os))).1
          have gbp : ∀ n os, (Go.Sort.grow ((wr).drewN n) os).cell? ⟨X, 0, none⟩ = some (.int .i64 x1) := fun n os => (KB.out _ (below2 hbel (below_grow _ n os))).1
          go_wp2_with fail
          refine wp_region_QW mixed5 (by kernel_rfl) ?_
          repeat (refine QW_step (fun K hK => ?_); go_simp; first | (refine hK _ ?_; clear hK K) | (apply Exists.intro; refine ⟨fun _ => ?_, hK _ ?_⟩; fail; clear hK K))
          refine QW_nil ?_
          intro _ hw9
          obtain ⟨⟨nq, osq⟩, hw8⟩ := hw9
          subst hw8
          show Exit.then _ _ _ _ (Go.Sort.grow ((wr).drewN nq) osq)
          have hbp : Below wb.heap.size wb (Go.Sort.grow ((wr).drewN nq) osq) := below2 hbel (below_grow _ nq osq)
          have hownp := own_below hown (below_grow wr nq osq)
          clear gap gbp
          generalize Go.Sort.grow ((wr).drewN nq) osq = wp at *
          obtain ⟨xap, xbp⟩ := KB.out wp hbp
          obtain ⟨yap, ybp⟩ := KC.out wp hbp
          have hownBs := own_alloc hownp (.cells #[.int .i64 x1, .int .i64 x2] 37)
          have hszs := (hbp).size
          have hnewss := cells_lit wp (chCells (x1, x2)) 37
          have hw4s : wp.alloc (.cells (chCells (x1, x2)).toArray 37) = wp.alloc (.cells #[.int .i64 x1, .int .i64 x2] 37) := rfl
          rw [hw4s] at hnewss
          go_wp2_with (at_builtin; refine wpList_append_own _ rfl _ _ 23 rfl wb.heap.size 37 i0 (.agg #[.int .i64 0, .int .i64 0]) 2 16 Try.underlying23 hi hz0 hz1 hz2 rfl (by decide) _ _ _ rfl hownBs ⟨(wp).heap.size, 0, none⟩ 1 1 (chCells (x1, x2)) rfl rfl hnewss (by intro u hu; simp [chCells] at hu; rcases hu with rfl | rfl <;> rfl) (by unfold maxLen; first | omega | (simp; omega)) (by first | omega | (simp; omega)) (by simp; omega) ?_)
          intro vs ws howns' hgs _
          have howns : ws.ownsRow wb.heap.size 37 2 vs (out ++ [(x1, x2)]).length (cellsC (out ++ [(x1, x2)])) := by
            rw [cellsC_snoc, List.length_append]
            first | exact howns' | (rw [List.length_append]; exact howns')
          have hbs : Below wb.heap.size wb ws := ((hbp).alloc hszs _).grown hgs (by simp; omega) (fun k hk => ((hownp).lt k hk).1)
          clear howns' hgs hownBs hnewss hw4s
          obtain ⟨xas, xbs⟩ := KB.out ws hbs
          have gaq : ∀ n os, (Go.Sort.grow ((ws).drewN n) os).cell? ⟨b, off + k * 2, none⟩ = some (.int .i64 c1) := fun n os => (KC.out _ (below2 hbs (below_grow _ n os))).1
          have gbq : ∀ n os, (Go.Sort.grow ((ws).drewN n) os).cell? ⟨X, 0, none⟩ = some (.int .i64 x1) := fun n os => (KB.out _ (below2 hbs (below_grow _ n os))).1
          go_wp2_with fail
          refine wp_region_QW mixed5 (by kernel_rfl) ?_
          repeat (refine QW_step (fun K hK => ?_); go_simp; first | (refine hK _ ?_; clear hK K) | (apply Exists.intro; refine ⟨fun _ => ?_, hK _ ?_⟩; fail; clear hK K))
          refine QW_nil ?_
          intro _ hw9
          obtain ⟨⟨nq, osq⟩, hw8⟩ := hw9
          subst hw8
          show Exit.then _ _ _ _ (Go.Sort.grow ((ws).drewN nq) osq)
          have hbq : Below wb.heap.size wb (Go.Sort.grow ((ws).drewN nq) osq) := below2 hbs (below_grow _ nq osq)
          have hownq := own_below howns (below_grow ws nq osq)
          clear gaq gbq
          generalize Go.Sort.grow ((ws).drewN nq) osq = wq at *
          obtain ⟨xaq, xbq⟩ := KB.out wq hbq
          obtain ⟨yaq, ybq⟩ := KC.out wq hbq
          have HO : Hid _ := hownq
          go_wp2_with fail
          exact ⟨⟨k + 1, _, c2, true, by omega, rfl, rfl, by go_num, by first | omega | (simp; omega), HY, HO, hbq⟩, by simp [intOf]; omega⟩
        · have HY : Hid (PutIs (x1, x2) ls (k + 1) (out ++ [(x1, x2)] ++ [(c1, c2)]) was true) := put_new hT.out hkl HCC.out (by show x1 < c1; omega)
          have hd1 : decide (x1 ≤ c1) = true := decide_eq_true (by omega)
          have hd2 : (c1 == x1) = false := beq_eq_false_iff_ne.2 (by omega)
          clear hT HCC
          have gap : ∀ n os, (Go.Sort.grow ((wr).drewN n) os).cell? ⟨b, off + k * 2, none⟩ = some (.int .i64 c1) := fun n os => (KC.out _ (below2 hbel (below_grow _ n os))).1
          have gbp : ∀ n os, (Go.Sort.grow ((wr).drewN n) os).cell? ⟨X, 0, none⟩ = some (.int .i64 x1) := fun n os => (KB.out _ (below2 hbel (below_grow _ n os))).1
          go_wp2_with fail
          refine wp_region_QW mixed5 (by kernel_rfl) ?_
          repeat (refine QW_step (fun K hK => ?_); go_simp; first | (refine hK _ ?_; clear hK K) | (apply Exists.intro; refine ⟨fun _ => ?_, hK _ ?_⟩; fail; clear hK K))
          refine QW_nil ?_
          intro _ hw9
          obtain ⟨⟨nq, osq⟩, hw8⟩ := hw9
          subst hw8
          show Exit.then _ _ _ _ (Go.Sort.grow ((wr).drewN nq) osq)
          have hbp : Below wb.heap.size wb (Go.Sort.grow ((wr).drewN nq) osq) := below2 hbel (below_grow _ nq osq)
          have hownp := own_below hown (below_grow wr nq osq)
          clear gap gbp
          generalize Go.Sort.grow ((wr).drewN nq) osq = wp at *
          obtain ⟨xap, xbp⟩ := KB.out wp hbp
          obtain ⟨yap, ybp⟩ := KC.out wp hbp
          have hownBs := own_alloc hownp (.cells #[.int .i64 x1, .int .i64 x2] 37)
          have hszs := (hbp).size
          have hnewss := cells_lit wp (chCells (x1, x2)) 37
          have hw4s : wp.alloc (.cells (chCells (x1, x2)).toArray 37) = wp.alloc (.cells #[.int .i64 x1, .int .i64 x2] 37) := rfl
          rw [hw4s] at hnewss
          go_wp2_with (at_builtin; refine wpList_append_own _ rfl _ _ 23 rfl wb.heap.size 37 i0 (.agg #[.int .i64 0, .int .i64 0]) 2 16 Try.underlying23 hi hz0 hz1 hz2 rfl (by decide) _ _ _ rfl hownBs ⟨(wp).heap.size, 0, none⟩ 1 1 (chCells (x1, x2)) rfl rfl hnewss (by intro u hu; simp [chCells] at hu; rcases hu with rfl | rfl <;> rfl) (by unfold maxLen; first | omega | (simp; omega)) (by first | omega | (simp; omega)) (by simp; omega) ?_)
          intro vs ws howns' hgs _
          have howns : ws.ownsRow wb.heap.size 37 2 vs (out ++ [(x1, x2)]).length (cellsC (out ++ [(x1, x2)])) := by
            rw [cellsC_snoc, List.length_append]
            first | exact howns' | (rw [List.length_append]; exact howns')
          have hbs : Below wb.heap.size wb ws := ((hbp).alloc hszs _).grown hgs (by simp; omega) (fun k hk => ((hownp).lt k hk).1)
          clear howns' hgs hownBs hnewss hw4s
          obtain ⟨xas, xbs⟩ := KB.out ws hbs
          have gaq : ∀ n os, (Go.Sort.grow ((ws).drewN n) os).cell? ⟨b, off + k * 2, none⟩ = some (.int .i64 c1) := fun n os => (KC.out _ (below2 hbs (below_grow _ n os))).1
          have gbq : ∀ n os, (Go.Sort.grow ((ws).drewN n) os).cell? ⟨X, 0, none⟩ = some (.int .i64 x1) := fun n os => (KB.out _ (below2 hbs (below_grow _ n os))).1
          go_wp2_with fail
          refine wp_region_QW mixed5 (by kernel_rfl) ?_
          repeat (refine QW_step (fun K hK => ?_); go_simp; first | (refine hK _ ?_; clear hK K) | (apply Exists.intro; refine ⟨fun _ => ?_, hK _ ?_⟩; fail; clear hK K))
          refine QW_nil ?_
          intro _ hw9
          obtain ⟨⟨nq, osq⟩, hw8⟩ := hw9
          subst hw8
          show Exit.then _ _ _ _ (Go.Sort.grow ((ws).drewN nq) osq)
          have hbq : Below wb.heap.size wb (Go.Sort.grow ((ws).drewN nq) osq) := below2 hbs (below_grow _ nq osq)
          have hownq := own_below howns (below_grow ws nq osq)
          clear gaq gbq
          generalize Go.Sort.grow ((ws).drewN nq) osq = wq at *
          obtain ⟨xaq, xbq⟩ := KB.out wq hbq
          obtain ⟨yaq, ybq⟩ := KC.out wq hbq
          have hownBt := own_alloc hownq (.cells #[.int .i64 c1, .int .i64 c2] 37)
          have hszt := (hbq).size
          have hnewst := cells_lit wq (chCells (c1, c2)) 37
          have hw4t : wq.alloc (.cells (chCells (c1, c2)).toArray 37) = wq.alloc (.cells #[.int .i64 c1, .int .i64 c2] 37) := rfl
          rw [hw4t] at hnewst
          go_wp2_with (at_builtin; refine wpList_append_own _ rfl _ _ 23 rfl wb.heap.size 37 i0 (.agg #[.int .i64 0, .int .i64 0]) 2 16 Try.underlying23 hi hz0 hz1 hz2 rfl (by decide) _ _ _ rfl hownBt ⟨(wq).heap.size, 0, none⟩ 1 1 (chCells (c1, c2)) rfl rfl hnewst (by intro u hu; simp [chCells] at hu; rcases hu with rfl | rfl <;> rfl) (by unfold maxLen; first | omega | (simp; omega)) (by first | omega | (simp; omega)) (by simp; omega) ?_)
          intro vt wt hownt' hgt _
          have hownt : wt.ownsRow wb.heap.size 37 2 vt ((out ++ [(x1, x2)]) ++ [(c1, c2)]).length (cellsC ((out ++ [(x1, x2)]) ++ [(c1, c2)])) := by
            rw [cellsC_snoc, List.length_append]
            first | exact hownt' | (rw [List.length_append]; exact hownt')
          have hbt : Below wb.heap.size wb wt := ((hbq).alloc hszt _).grown hgt (by simp; omega) (fun k hk => ((hownq).lt k hk).1)
          clear hownt' hgt hownBt hnewst hw4t
          obtain ⟨xat, xbt⟩ := KB.out wt hbt
          have HO : Hid _ := hownt
          go_wp2_with fail
          exact ⟨⟨k + 1, _, was, true, by omega, rfl, rfl, by go_num, by first | omega | (simp; omega), HY, HO, hbt⟩, by simp [intOf]; omega⟩
      | true =>
        have q1 : x1 < c1 := put_more (may_rise HM.out) hT.out hkl HCC.out
        have HY : Hid (PutIs (x1, x2) ls (k + 1) (out ++ [(c1, c2)]) was true) := put_on hT.out hkl HCC.out q1
        have hd2 : (c1 == x1) = false := beq_eq_false_iff_ne.2 (by omega)
        clear hT HCC
        have gap : ∀ n os, (Go.Sort.grow ((wr).drewN n) os).cell? ⟨b, off + k * 2, none⟩ = some (.int .i64 c1) := fun n os => (KC.out _ (below2 hbel (below_grow _ n os))).1
        have gbp : ∀ n os, (Go.Sort.grow ((wr).drewN n) os).cell? ⟨X, 0, none⟩ = some (.int .i64 x1) := fun n os => (KB.out _ (below2 hbel (below_grow _ n os))).1
        go_wp2_with fail
        refine wp_region_QW mixed5 (by kernel_rfl) ?_
        repeat (refine QW_step (fun K hK => ?_); go_simp; first | (refine hK _ ?_; clear hK K) | (apply Exists.intro; refine ⟨fun _ => ?_, hK _ ?_⟩; fail; clear hK K))
        refine QW_nil ?_
        intro _ hw9
        obtain ⟨⟨nq, osq⟩, hw8⟩ := hw9
        subst hw8
        show Exit.then _ _ _ _ (Go.Sort.grow ((wr).drewN nq) osq)
        have hbp : Below wb.heap.size wb (Go.Sort.grow ((wr).drewN nq) osq) := below2 hbel (below_grow _ nq osq)
        have hownp := own_below hown (below_grow wr nq osq)
        clear gap gbp
        generalize Go.Sort.grow ((wr).drewN nq) osq = wp at *
        obtain ⟨xap, xbp⟩ := KB.out wp hbp
        obtain ⟨yap, ybp⟩ := KC.out wp hbp
        have gaq : ∀ n os, (Go.Sort.grow ((wp).drewN n) os).cell? ⟨b, off + k * 2, none⟩ = some (.int .i64 c1) := fun n os => (KC.out _ (below2 hbp (below_grow _ n os))).1
        have gbq : ∀ n os, (Go.Sort.grow ((wp).drewN n) os).cell? ⟨X, 0, none⟩ = some (.int .i64 x1) := fun n os => (KB.out _ (below2 hbp (below_grow _ n os))).1
        go_wp2_with fail
        refine wp_region_QW mixed5 (by kernel_rfl) ?_
        repeat (refine QW_step (fun K hK => ?_); go_simp; first | (refine hK _ ?_; clear hK K) | (apply Exists.intro; refine ⟨fun _ => ?_, hK _ ?_⟩; fail; clear hK K))
        refine QW_nil ?_
        intro _ hw9
        obtain ⟨⟨nq, osq⟩, hw8⟩ := hw9
        subst hw8
        show Exit.then _ _ _ _ (Go.Sort.grow ((wp).drewN nq) osq)
        have hbq : Below wb.heap.size wb (Go.Sort.grow ((wp).drewN nq) osq) := below2 hbp (below_grow _ nq osq)
        have hownq := own_below hownp (below_grow wp nq osq)
        clear gaq gbq
        generalize Go.Sort.grow ((wp).drewN nq) osq = wq at *
        obtain ⟨xaq, xbq⟩ := KB.out wq hbq
        obtain ⟨yaq, ybq⟩ := KC.out wq hbq
        have hownBs := own_alloc hownq (.cells #[.int .i64 c1, .int .i64 c2] 37)
        have hszs := (hbq).size
        have hnewss := cells_lit wq (chCells (c1, c2)) 37
        have hw4s : wq.alloc (.cells (chCells (c1, c2)).toArray 37) = wq.alloc (.cells #[.int .i64 c1, .int .i64 c2] 37) := rfl
        rw [hw4s] at hnewss
        go_wp2_with (at_builtin; refine wpList_append_own _ rfl _ _ 23 rfl wb.heap.size 37 i0 (.agg #[.int .i64 0, .int .i64 0]) 2 16 Try.underlying23 hi hz0 hz1 hz2 rfl (by decide) _ _ _ rfl hownBs ⟨(wq).heap.size, 0, none⟩ 1 1 (chCells (c1, c2)) rfl rfl hnewss (by intro u hu; simp [chCells] at hu; rcases hu with rfl | rfl <;> rfl) (by unfold maxLen; first | omega | (simp; omega)) (by first | omega | (simp; omega)) (by simp; omega) ?_)
        intro vs ws howns' hgs _
        have howns : ws.ownsRow wb.heap.size 37 2 vs (out ++ [(c1, c2)]).length (cellsC (out ++ [(c1, c2)])) := by
          rw [cellsC_snoc, List.length_append]
          first | exact howns' | (rw [List.length_append]; exact howns')
        have hbs : Below wb.heap.size wb ws := ((hbq).alloc hszs _).grown hgs (by simp; omega) (fun k hk => ((hownq).lt k hk).1)
        clear howns' hgs hownBs hnewss hw4s
        obtain ⟨xas, xbs⟩ := KB.out ws hbs
        have HO : Hid _ := howns
        go_wp2_with fail
        exact ⟨⟨k + 1, _, was, true, by omega, rfl, rfl, by go_num, by first | omega | (simp; omega), HY, HO, hbs⟩, by simp [intOf]; omega⟩
    · have hkl : ¬ (k : Int) < (len : Int) := by omega
      obtain ⟨xa0, xb0⟩ := KB.out wr hbel
      cases p with
      | false =>
        obtain ⟨hE, hW⟩ := put_last hT.out (by omega)
        have HV : Hid (EndsC x1 x2 was ai aq bi bq) := by rw [hW]; exact HV1.out
        have HE : Hid (out ++ [(x1, x2)] = mergeX (x1, x2) ls) := hE
        clear hT hE hW HV1
        have hownBs := own_alloc hown (.cells #[.int .i64 x1, .int .i64 x2] 37)
        have hszs := (hbel).size
        have hnewss := cells_lit wr (chCells (x1, x2)) 37
        have hw4s : wr.alloc (.cells (chCells (x1, x2)).toArray 37) = wr.alloc (.cells #[.int .i64 x1, .int .i64 x2] 37) := rfl
        rw [hw4s] at hnewss
        go_wp2_with (at_builtin; refine wpList_append_own _ rfl _ _ 23 rfl wb.heap.size 37 i0 (.agg #[.int .i64 0, .int .i64 0]) 2 16 Try.underlying23 hi hz0 hz1 hz2 rfl (by decide) _ _ _ rfl hownBs ⟨(wr).heap.size, 0, none⟩ 1 1 (chCells (x1, x2)) rfl rfl hnewss (by intro u hu; simp [chCells] at hu; rcases hu with rfl | rfl <;> rfl) (by unfold maxLen; first | omega | (simp; omega)) (by first | omega | (simp; omega)) (by simp; omega) ?_)
        intro vs ws howns' hgs _
        have howns : ws.ownsRow wb.heap.size 37 2 vs (out ++ [(x1, x2)]).length (cellsC (out ++ [(x1, x2)])) := by
          rw [cellsC_snoc, List.length_append]
          first | exact howns' | (rw [List.length_append]; exact howns')
        have hbs : Below wb.heap.size wb ws := ((hbel).alloc hszs _).grown hgs (by simp; omega) (fun k hk => ((hown).lt k hk).1)
        clear howns' hgs hownBs hnewss hw4s
        obtain ⟨xas, xbs⟩ := KB.out ws hbs
        rw [HE.out] at howns
        clear HE hown
        obtain ⟨am, cm, rfl, -⟩ := own_slice howns
        have hLv : ChsAt ws a len cap ls := HL.out.below hbs
        have HBA : Hid (∀ W, Below (ws).heap.size ws W → Calls Try.prog 9 #[.int .u64 (key : Int), .slice a len cap] W fun e w' => e = .returned (.tuple #[.int .i64 ai, .bool aq]) ∧ Below (ws).heap.size ws w') := by
          have := best_yes HKEY.out hLv HM.out
          rw [HAI.out.1, HAI.out.2] at this
          exact this
        have HBB : Hid (∀ W, Below (ws).heap.size ws W → Calls Try.prog 9 #[.int .u64 (key : Int), .slice am (mergeX (x1, x2) ls).length cm] W fun e w' => e = .returned (.tuple #[.int .i64 bi, .bool bq]) ∧ Below (ws).heap.size ws w') := by
          have := best_yes HKEY.out (chs_own howns rfl) HMM.out
          rw [HBI.out.1, HBI.out.2] at this
          exact this
        have hbv : Below wb.heap.size wb ws := hbs
        clear hLv
        generalize (mergeX (x1, x2) ls).length = nm at *
        go_wp2_with fail
        refine (HBA.out _ (Below.refl _ _)).mono ?_
        rintro e w3 ⟨rfl, hb3⟩
        go_wp2_with fail
        refine (HBB.out _ hb3).mono ?_
        rintro e w4 ⟨rfl, hb4⟩
        have hbw : Below wb.heap.size wb w4 := below2 hbv hb4
        obtain ⟨ya, yb⟩ := KB.out w4 hbw
        clear HBA HBB hb3 hb4
        have hv := HV.out
        clear HV HAI HBI
        rcases hv with ⟨rfl, rfl, rfl⟩ | ⟨rfl, rfl⟩ | ⟨rfl, rfl, rfl, hlt⟩ | ⟨rfl, rfl, hne, rfl, hlt⟩ | ⟨rfl, rfl, rfl, hlt⟩ | ⟨rfl, rfl, hne, rfl, hlt⟩
        · skip
          go_wp2_with (go_at_call 7; refine (HA.out _ (by assumption)).mono ?_; rintro e w5 ⟨rfl, hb5⟩)
          go_ret
          exact ⟨rfl, HFIN.out _ (by assumption)⟩
        · skip
          go_wp2_with (go_at_call 7; refine (HA.out _ (by assumption)).mono ?_; rintro e w5 ⟨rfl, hb5⟩)
          go_ret
          exact ⟨rfl, HFIN.out _ (by assumption)⟩
        · skip
          go_wp2_with (go_at_call 7; refine (HA.out _ (by assumption)).mono ?_; rintro e w5 ⟨rfl, hb5⟩)
          go_ret
          exact ⟨rfl, HFIN.out _ (by assumption)⟩
        · have hd : (ai == bi) = false := beq_eq_false_iff_ne.2 hne
          go_wp2_with (go_at_call 7; refine (HA.out _ (by assumption)).mono ?_; rintro e w5 ⟨rfl, hb5⟩)
          go_ret
          exact ⟨rfl, HFIN.out _ (by assumption)⟩
        · have hd : decide (was < x2) = false := decide_eq_false (by omega)
          go_wp2_with (go_at_call 7; refine (HA.out _ (by assumption)).mono ?_; rintro e w5 ⟨rfl, hb5⟩)
          go_ret
          exact ⟨rfl, HFIN.out _ (by assumption)⟩
        · have hd : decide (was < x2) = false := decide_eq_false (by omega)
          have hd2 : (ai == bi) = false := beq_eq_false_iff_ne.2 hne
          go_wp2_with (go_at_call 7; refine (HA.out _ (by assumption)).mono ?_; rintro e w5 ⟨rfl, hb5⟩)
          go_ret
          exact ⟨rfl, HFIN.out _ (by assumption)⟩
      | true =>
        obtain ⟨hE, hW⟩ := put_end hT.out (by omega)
        have HV : Hid (EndsC x1 x2 was ai aq bi bq) := by rw [hW]; exact HV1.out
        rw [hE] at hown
        clear hT hE hW HV1
        obtain ⟨am, cm, rfl, -⟩ := own_slice hown
        have hLv : ChsAt wr a len cap ls := HL.out.below hbel
        have HBA : Hid (∀ W, Below (wr).heap.size wr W → Calls Try.prog 9 #[.int .u64 (key : Int), .slice a len cap] W fun e w' => e = .returned (.tuple #[.int .i64 ai, .bool aq]) ∧ Below (wr).heap.size wr w') := by
          have := best_yes HKEY.out hLv HM.out
          rw [HAI.out.1, HAI.out.2] at this
          exact this
        have HBB : Hid (∀ W, Below (wr).heap.size wr W → Calls Try.prog 9 #[.int .u64 (key : Int), .slice am (mergeX (x1, x2) ls).length cm] W fun e w' => e = .returned (.tuple #[.int .i64 bi, .bool bq]) ∧ Below (wr).heap.size wr w') := by
          have := best_yes HKEY.out (chs_own hown rfl) HMM.out
          rw [HBI.out.1, HBI.out.2] at this
          exact this
        have hbv : Below wb.heap.size wb wr := hbel
        clear hLv
        generalize (mergeX (x1, x2) ls).length = nm at *
        go_wp2_with fail
        refine (HBA.out _ (Below.refl _ _)).mono ?_
        rintro e w3 ⟨rfl, hb3⟩
        go_wp2_with fail
        refine (HBB.out _ hb3).mono ?_
        rintro e w4 ⟨rfl, hb4⟩
        have hbw : Below wb.heap.size wb w4 := below2 hbv hb4
        obtain ⟨ya, yb⟩ := KB.out w4 hbw
        clear HBA HBB hb3 hb4
        have hv := HV.out
        clear HV HAI HBI
        rcases hv with ⟨rfl, rfl, rfl⟩ | ⟨rfl, rfl⟩ | ⟨rfl, rfl, rfl, hlt⟩ | ⟨rfl, rfl, hne, rfl, hlt⟩ | ⟨rfl, rfl, rfl, hlt⟩ | ⟨rfl, rfl, hne, rfl, hlt⟩
        · skip
          go_wp2_with (go_at_call 7; refine (HA.out _ (by assumption)).mono ?_; rintro e w5 ⟨rfl, hb5⟩)
          go_ret
          exact ⟨rfl, HFIN.out _ (by assumption)⟩
        · skip
          go_wp2_with (go_at_call 7; refine (HA.out _ (by assumption)).mono ?_; rintro e w5 ⟨rfl, hb5⟩)
          go_ret
          exact ⟨rfl, HFIN.out _ (by assumption)⟩
        · skip
          go_wp2_with (go_at_call 7; refine (HA.out _ (by assumption)).mono ?_; rintro e w5 ⟨rfl, hb5⟩)
          go_ret
          exact ⟨rfl, HFIN.out _ (by assumption)⟩
        · have hd : (ai == bi) = false := beq_eq_false_iff_ne.2 hne
          go_wp2_with (go_at_call 7; refine (HA.out _ (by assumption)).mono ?_; rintro e w5 ⟨rfl, hb5⟩)
          go_ret
          exact ⟨rfl, HFIN.out _ (by assumption)⟩
        · have hd : decide (was < x2) = false := decide_eq_false (by omega)
          go_wp2_with (go_at_call 7; refine (HA.out _ (by assumption)).mono ?_; rintro e w5 ⟨rfl, hb5⟩)
          go_ret
          exact ⟨rfl, HFIN.out _ (by assumption)⟩
        · have hd : decide (was < x2) = false := decide_eq_false (by omega)
          have hd2 : (ai == bi) = false := beq_eq_false_iff_ne.2 hne
          go_wp2_with (go_at_call 7; refine (HA.out _ (by assumption)).mono ?_; rintro e w5 ⟨rfl, hb5⟩)
          go_ret
          exact ⟨rfl, HFIN.out _ (by assumption)⟩
theorem drawMoves_any (key : Nat) (a : Option Addr) (len cap : Nat) (ls : List Ch) (x1 x2 : Int) (w : World) (hkey : key < 18446744073709551616) (h : ChsAt w a len cap ls) :
    Calls Try.prog 5 #[.int .u64 (key : Int), .slice a len cap, .agg #[.int .i64 x1, .int .i64 x2]] w fun e w' => TruePost w e w' := by
  by_cases h1 : 60 < len
  · exact moves_idle key a len cap ls x1 x2 w h (.inl h1)
  · by_cases h2 : MayC ls
    · by_cases h3 : InC (x1, x2)
      · exact moves_main key a len cap ls x1 x2 w hkey h h1 h2 h3
      · exact moves_idle key a len cap ls x1 x2 w h (.inr (.inr h3))
    · exact moves_idle key a len cap ls x1 x2 w h (.inr (.inl h2))
end Go.Proofs.Ytbconflmjdpolaa
