/-
  The law BlockEven.
-/
import Derived.Test.YtfplncadjifgfaaBkT
import Derived.Test.YtfplncadjifgfaaBkM
import Derived.Test.YtfplncadjifgfaaBkN
import Derived.Test.YtfplncadjifgfaaBkF
namespace Go.Proofs.Ytfplncadjifgfaa.Bk
open Go.ChangeShapes Go.WideShapes Go.ChangeAt Go.RowKit
open Go.Proofs.Ytfplncadjifgfaa.Fr
set_option maxHeartbeats 4000000 in
set_option maxRecDepth 60000 in
theorem even_7 (t0 t1 t2 t3 t4 t5 t6 t7 t8 t9 t10 t12 t13 t14 t15 t16 t17 t18 t19 t20 t21 t22 t23 t24 t25 t26 t27 t28 t29 t30 t31 t32 t33 t34 t35 t36 t37 t38 t39 t40 t41 t42 t43 t44 t45 t46 t47 t48 t49 t50 t51 t52 t53 t54 t55 t56 t57 t58 t59 t60 t61 t62 t63 t64 t65 t66 t67 : Value) (g N cp r r2 B B2 : Nat) (w1 : World) (Q : Exit → Act → World → Prop)
    (a1 : IntKind.i64.wrap ((N : Int) - 2) = (r : Int)) (a2 : IntKind.i64.wrap (2 * (r : Int)) = (r2 : Int)) (a3 : IntKind.i64.wrap ((B2 : Int) + (r2 : Int)) = (B : Int)) (a4 : (2 : Int) ≤ (cp : Int))
    (H1 : Hid (∀ w', Below w1.heap.size w1 w' → Calls Try.prog 11 #[.slice (some ⟨g, 0, none⟩) N cp] w' fun e w'' => e = .returned (.int .i64 (B : Int)) ∧ Below w'.heap.size w' w''))
    (H4 : Hid (∀ w', Below w1.heap.size w1 w' → Calls Try.prog 11 #[.slice (some ⟨g, 0, none⟩) 2 cp] w' fun e w'' => e = .returned (.int .i64 (B2 : Int)) ∧ Below w'.heap.size w' w''))
    (H14 : Hid (∀ w', Below w1.heap.size w1 w' → Calls Try.prog 17 #[.slice (some ⟨g, 0, none⟩) N cp, .slice (some ⟨g, 0, none⟩) N cp] w' fun e w'' => e = .returned (.bool true) ∧ Below w'.heap.size w' w''))
    (H17 : Hid (∀ w', Below w1.heap.size w1 w' → Calls Try.prog 6 #[] w' fun e w'' => e = .returned (.bool true) ∧ Below w'.heap.size w' w''))
    (hQ : Hid (∀ (u49 u50 u51 u52 u53 u54 u55 u56 u57 u58 u59 u60 u61 u62 u63 u64 u65 u66 u67 : Value) (wC : World), Below w1.heap.size w1 wC → Q .normal ⟨#[t0, t1, t2, t3, t4, t5, .bool true, t7, t8, t9, t10, .slice (some ⟨g, 0, none⟩) N cp, t12, t13, t14, t15, t16, t17, t18, t19, t20, t21, t22, t23, t24, t25, t26, t27, t28, t29, t30, t31, t32, t33, t34, t35, t36, t37, t38, t39, t40, t41, t42, t43, t44, t45, t46, t47, t48, u49, u50, u51, u52, u53, u54, u55, u56, u57, u58, u59, u60, u61, u62, u63, u64, u65, u66, u67], []⟩ wC)) :
    Code.wp Try.prog ((Try.f5.body.bind (regionOf 7)).getD .skip) Q ⟨#[t0, t1, t2, t3, t4, t5, t6, t7, t8, t9, t10, .slice (some ⟨g, 0, none⟩) N cp, t12, t13, t14, t15, t16, t17, t18, t19, t20, t21, t22, t23, t24, t25, t26, t27, t28, t29, t30, t31, t32, t33, t34, t35, t36, t37, t38, t39, t40, t41, t42, t43, t44, t45, t46, t47, t48, t49, t50, t51, t52, t53, t54, t55, t56, t57, t58, t59, t60, t61, t62, t63, t64, t65, t66, t67], []⟩ w1 := by
  have hS : (fun w' => Below w1.heap.size w1 w') w1.drew := below_drew w1
  conv => arg 2; whnf
  refine held_start (S := fun w' => Below w1.heap.size w1 w') mixed5 ?_
  refine held_take (i := 0) (v := .slice (some ⟨g, 0, none⟩) N cp) rfl (by kernel_rfl) (fun _ _ _ h => h) (.inl ⟨rfl, fun w hS => ?_⟩) hS ?_
  · go_simp
  try simp only [Act.put, List.setIfInBounds_toArray, List.set_cons_zero, List.set_cons_succ]
  refine held_take (i := 2) (v := .slice (some ⟨g, 0, none⟩) N cp) rfl (by kernel_rfl) (fun _ _ _ h => h) (.inl ⟨rfl, fun w hS => ?_⟩) hS ?_
  · go_simp
  try simp only [Act.put, List.setIfInBounds_toArray, List.set_cons_zero, List.set_cons_succ]
  refine held_take (i := 3) (v := .slice (some ⟨g, 0, none⟩) 2 cp) rfl (by kernel_rfl) (fun _ _ _ h => h) (.inl ⟨rfl, fun w hS => ?_⟩) hS ?_
  · go_simp
  try simp only [Act.put, List.setIfInBounds_toArray, List.set_cons_zero, List.set_cons_succ]
  refine held_take (i := 5) (v := .slice (some ⟨g, 0, none⟩) N cp) rfl (by kernel_rfl) (fun _ _ _ h => h) (.inl ⟨rfl, fun w hS => ?_⟩) hS ?_
  · go_simp
  try simp only [Act.put, List.setIfInBounds_toArray, List.set_cons_zero, List.set_cons_succ]
  refine held_take (i := 6) (v := .int .i64 (N : Int)) rfl (by kernel_rfl) (fun _ _ _ h => h) (.inl ⟨rfl, fun w hS => ?_⟩) hS ?_
  · go_simp
  try simp only [Act.put, List.setIfInBounds_toArray, List.set_cons_zero, List.set_cons_succ]
  refine held_take (i := 7) (v := .int .i64 (r : Int)) rfl (by kernel_rfl) (fun _ _ _ h => h) (.inl ⟨rfl, fun w hS => ?_⟩) hS ?_
  · go_simp
  try simp only [Act.put, List.setIfInBounds_toArray, List.set_cons_zero, List.set_cons_succ]
  refine held_take (i := 8) (v := .int .i64 (r2 : Int)) rfl (by kernel_rfl) (fun _ _ _ h => h) (.inl ⟨rfl, fun w hS => ?_⟩) hS ?_
  · go_simp
  try simp only [Act.put, List.setIfInBounds_toArray, List.set_cons_zero, List.set_cons_succ]
  refine held_one (i := 1) (by kernel_rfl) rfl rfl ?_
  intro K hK
  go_simp
  go_at_call 11
  refine (H1.out _ hS).mono ?_
  rintro e w3 ⟨rfl, hb3⟩
  have hb03 : Below w1.heap.size w1 w3 := below2 hS hb3
  refine hK.out _ _ (hb03) ?_
  have hS9 := hb03
  clear hK hS
  have hS := hS9
  clear hS9
  try simp only [Act.put, List.setIfInBounds_toArray, List.set_cons_zero, List.set_cons_succ]
  refine held_one (i := 4) (by kernel_rfl) rfl rfl ?_
  intro K hK
  go_simp
  go_at_call 11
  refine (H4.out _ hS).mono ?_
  rintro e w4 ⟨rfl, hb4⟩
  have hb04 : Below w1.heap.size w1 w4 := below2 hb03 hb4
  refine hK.out _ _ (hb04) ?_
  have hS9 := hb04
  clear hK hS
  have hS := hS9
  clear hS9
  try simp only [Act.put, List.setIfInBounds_toArray, List.set_cons_zero, List.set_cons_succ]
  refine held_take (i := 9) (v := .int .i64 (B : Int)) rfl (by kernel_rfl) (fun _ _ _ h => h) (.inl ⟨rfl, fun w hS => ?_⟩) hS ?_
  · go_simp
  try simp only [Act.put, List.setIfInBounds_toArray, List.set_cons_zero, List.set_cons_succ]
  refine held_take (i := 10) (v := .bool true) rfl (by kernel_rfl) (fun _ _ _ h => h) (.inl ⟨rfl, fun w hS => ?_⟩) hS ?_
  · go_simp
  try simp only [Act.put, List.setIfInBounds_toArray, List.set_cons_zero, List.set_cons_succ]
  refine held_take (i := 11) (v := .bool true) rfl (by kernel_rfl) (fun _ _ _ h => h) (.inl ⟨rfl, fun w hS => ?_⟩) hS ?_
  · go_simp
  try simp only [Act.put, List.setIfInBounds_toArray, List.set_cons_zero, List.set_cons_succ]
  refine held_take (i := 12) (v := .slice (some ⟨g, 0, none⟩) N cp) rfl (by kernel_rfl) (fun _ _ _ h => h) (.inl ⟨rfl, fun w hS => ?_⟩) hS ?_
  · go_simp
  try simp only [Act.put, List.setIfInBounds_toArray, List.set_cons_zero, List.set_cons_succ]
  refine held_take (i := 13) (v := .slice (some ⟨g, 0, none⟩) N cp) rfl (by kernel_rfl) (fun _ _ _ h => h) (.inl ⟨rfl, fun w hS => ?_⟩) hS ?_
  · go_simp
  try simp only [Act.put, List.setIfInBounds_toArray, List.set_cons_zero, List.set_cons_succ]
  refine held_one (i := 14) (by kernel_rfl) rfl rfl ?_
  intro K hK
  go_simp
  go_at_call 17
  refine (H14.out _ hS).mono ?_
  rintro e w5 ⟨rfl, hb5⟩
  have hb05 : Below w1.heap.size w1 w5 := below2 hb04 hb5
  refine hK.out _ _ (hb05) ?_
  have hS9 := hb05
  clear hK hS
  have hS := hS9
  clear hS9
  try simp only [Act.put, List.setIfInBounds_toArray, List.set_cons_zero, List.set_cons_succ]
  refine held_take (i := 15) (v := .bool true) rfl (by kernel_rfl) (fun _ _ _ h => h) (.inl ⟨rfl, fun w hS => ?_⟩) hS ?_
  · go_simp
  try simp only [Act.put, List.setIfInBounds_toArray, List.set_cons_zero, List.set_cons_succ]
  refine held_take (i := 16) (v := .bool true) rfl (by kernel_rfl) (fun _ _ _ h => h) (.inl ⟨rfl, fun w hS => ?_⟩) hS ?_
  · go_simp
  try simp only [Act.put, List.setIfInBounds_toArray, List.set_cons_zero, List.set_cons_succ]
  refine held_one (i := 17) (by kernel_rfl) rfl rfl ?_
  intro K hK
  go_simp
  go_at_call 6
  refine (H17.out _ hS).mono ?_
  rintro e w6 ⟨rfl, hb6⟩
  have hb06 : Below w1.heap.size w1 w6 := below2 hb05 hb6
  refine hK.out _ _ (hb06) ?_
  have hS9 := hb06
  clear hK hS
  have hS := hS9
  clear hS9
  try simp only [Act.put, List.setIfInBounds_toArray, List.set_cons_zero, List.set_cons_succ]
  refine held_take (i := 18) (v := .bool true) rfl (by kernel_rfl) (fun _ _ _ h => h) (.inl ⟨rfl, fun w hS => ?_⟩) hS ?_
  · go_simp
  try simp only [Act.put, List.setIfInBounds_toArray, List.set_cons_zero, List.set_cons_succ]
  refine held_take (i := 19) (v := .bool true) rfl (by kernel_rfl) (fun _ _ _ h => h) (.inl ⟨rfl, fun w hS => ?_⟩) hS ?_
  · go_simp
  try simp only [Act.put, List.setIfInBounds_toArray, List.set_cons_zero, List.set_cons_succ]
  refine wpAnyH_done (by kernel_rfl) ?_ _
  refine NoPanic.normal ?_
  exact hQ.out _ _ _ _ _ _ _ _ _ _ _ _ _ _ _ _ _ _ _ _ hS
/-- in the midst of BlockEven -/
def EvIn (t s v m : Int) (w : World) (k : Nat) (l : Value) (wr : World) : Prop :=
  Below w.heap.size w wr ∧ (∃ g cp, l = .slice (some ⟨g, 0, none⟩) k cp) ∧ wr.ownsRow w.heap.size 48 2 l k (cellsS (evenL t s v m k))
theorem sms_two {w : World} {a : Option Addr} {n cp : Nat} {L : List Sm} (h : SmsAt w a n cp L) (h2 : 2 ≤ n) : SmsAt w a 2 cp (L.take 2) := by
  obtain ⟨h1, h3, h4, h5⟩ := h
  refine ⟨by rw [List.length_take]; omega, by omega, h4, ?_⟩
  rcases h5 with h5 | ⟨b, off, e, hc⟩
  · omega
  · refine .inr ⟨b, off, e, fun i hi => ?_⟩
    rw [List.getD_eq_getElem?_getD, List.getElem?_take_of_lt hi, ← List.getD_eq_getElem?_getD]
    exact hc i (by omega)
set_option maxHeartbeats 1000000 in
set_option maxRecDepth 60000 in
theorem blockEven_any (t s v m : Int) (n : Nat) (w : World) (hE : EvOk t s v m) (hn : n ≤ 255) :
    Calls Try.prog 5 #[.agg #[.int .u32 t, .int .u32 s], .agg #[.int .i32 v, .int .i32 m], .int .u8 (n : Int)] w fun e w' => TruePost w e w' := by
  have HEv := Hid.mk9 hE
  obtain ⟨⟨t1, t2⟩, ⟨s1, s2⟩, ⟨v1, v2⟩, m1, m2⟩ := hE
  obtain ⟨c, hc⟩ : ∃ c : Nat, c = n % 62 := ⟨_, rfl⟩
  have hc1 : (n : Int) % 62 = (c : Int) := by omega
  have hc2 : (c : Int) ≤ 61 := by omega
  have hn1 : (n : Int) ≤ 255 := by omega
  obtain ⟨N, hN⟩ : ∃ N : Nat, N = 2 + c := ⟨_, rfl⟩
  have hN1 : 2 + (c : Int) = (N : Int) := by omega
  have hN2 : N ≤ 63 := by omega
  have hN3 : 2 ≤ N := by omega
  clear hc hn hN
  obtain ⟨i0, hi, hz0, hz1, hz2⟩ := info_parts infoS
  have bb := below2 (below_alloc w (.cells #[.int .u32 t, .int .u32 s] 45)) (below_alloc (w.alloc (.cells #[.int .u32 t, .int .u32 s] 45)) (.cells #[.int .i32 v, .int .i32 m] 46))
  have HB0 := Hid.mk9 bb
  clear bb
  go_enter Try.func5, Try.ntmps5
  go_wp2_with fail
  have x0 := cell_grown (w := (w.alloc (.cells #[.int .u32 t, .int .u32 s] 45)).alloc (.cells #[.int .i32 v, .int .i32 m] 46)) (a := ⟨w.heap.size, 0, none⟩) (v := .int .u32 t) (by simp; omega) (by simp)
  have x1 := cell_grown (w := (w.alloc (.cells #[.int .u32 t, .int .u32 s] 45)).alloc (.cells #[.int .i32 v, .int .i32 m] 46)) (a := ⟨w.heap.size, 1, none⟩) (v := .int .u32 s) (by simp; omega) (by simp)
  have x2 := cell_grown (w := (w.alloc (.cells #[.int .u32 t, .int .u32 s] 45)).alloc (.cells #[.int .i32 v, .int .i32 m] 46)) (a := ⟨w.heap.size + 1, 0, none⟩) (v := .int .i32 v) (by simp) (by simp)
  have x3 := cell_grown (w := (w.alloc (.cells #[.int .u32 t, .int .u32 s] 45)).alloc (.cells #[.int .i32 v, .int .i32 m] 46)) (a := ⟨w.heap.size + 1, 1, none⟩) (v := .int .i32 m) (by simp) (by simp)
  generalize (w.alloc (.cells #[.int .u32 t, .int .u32 s] 45)).alloc (.cells #[.int .i32 v, .int .i32 m] 46) = w1 at *
  refine wp_region_QW mixed5 (by kernel_rfl) ?_
  repeat (refine QW_step (fun K hK => ?_); go_simp; first | (refine hK _ ?_; clear hK K) | (apply Exists.intro; refine ⟨fun _ => ?_, hK _ ?_⟩; fail; clear hK K))
  refine QW_nil ?_
  intro _ hw9
  obtain ⟨⟨nq, osq⟩, hw8⟩ := hw9
  subst hw8
  have HB1 := Hid.mk9 (below2 HB0.out (below_grow w1 nq osq))
  clear x0 x1 x2 x3 HB0
  generalize Go.Sort.grow (w1.drewN nq) osq = w2 at *
  go_wp2_with fail
  have HI0 : Hid (EvIn t s v m w 0 (.slice (some ⟨w2.heap.size, 0, none⟩) 0 0) (w2.alloc (.cells #[] 48))) := by
    refine ⟨below2 HB1.out (below_alloc _ _), ⟨_, _, rfl⟩, ?_⟩
    exact World.ownsRow_lit (base := w.heap.size) (e := 48) (size := 2) w2 #[] 0 HB1.out.size (by unfold maxLen; omega) rfl
  go_loopw [11, 12] (fun l i wr => ∃ k : Nat, k ≤ N ∧ i = .int .i64 (k : Int) ∧ Hid (EvIn t s v m w k l wr)) (fun _ i _ => N - (intOf i).toNat)
  case atStart => exact ⟨0, by omega, rfl, HI0⟩
  case round =>
    clear HI0 HB1
    obtain ⟨k, hk, rfl, hP⟩ := hrel
    obtain ⟨hbel, ⟨g, cp, rfl⟩, hown⟩ := hP.out
    clear hP
    have HB := Hid.mk9 hbel
    have HO := Hid.mk9 hown
    clear hbel hown
    by_cases hlt : k < N
    · have lim := even_lim HEv.out (i := k) (by omega)
      have HS := Hid.mk9 (evenL_succ t s v m k)
      have hk1 : (k : Int) < (N : Int) := by omega
      have hk2 : (k : Int) ≤ 62 := by omega
      obtain ⟨z1, hz8⟩ : ∃ z1 : Int, (k : Int) * (1 + s) = z1 := ⟨_, rfl⟩
      obtain ⟨z2, hz9⟩ : ∃ z2 : Int, (k : Int) * m = z2 := ⟨_, rfl⟩
      rw [hz8, hz9] at lim HS
      obtain ⟨⟨l1, l2⟩, l3, l4⟩ := lim
      go_wp2_with (at_builtin; refine wpList_append_own _ rfl (.tmp 30) (.tmp 47) 22 rfl w.heap.size 48 i0 (.agg #[.int .i64 0, .int .i64 0]) 2 16 Try.underlying22 hi hz0 hz1 hz2 rfl (by decide) _ _ _ rfl (own_below HO.out (below_alloc _ _)) ⟨wr.heap.size, 0, none⟩ 1 1 [.int .i64 (t + z1), .int .i64 (v + z2)] rfl rfl (cells_lit wr [.int .i64 (t + z1), .int .i64 (v + z2)] 48) (by intro u hu; simp at hu; rcases hu with rfl | rfl <;> rfl) (by unfold maxLen; omega) (by omega) (by have := HB.out.size; simp; omega) ?_)
      intro v5 w5 hown5 hg5 hnil
      have hB9 := (own_sms HO.out).2.2
      have HB5 : Hid (Below w.heap.size w w5) := Hid.mk9 ((HB.out.alloc HB.out.size _).grown hg5 (by have := HB.out.size; simp; omega) (by intro k hk; simp [Value.ownBlock] at hk; omega))
      have hnil2 : ¬ v5 = .slice none 0 0 := fun e9 => by first | exact hnil e9 | (have := hnil.1 e9; simp at this)
      obtain ⟨g', cp', rfl⟩ := own_formS hown5 hnil2
      have HE : Hid (EvIn t s v m w (k + 1) (.slice (some ⟨g', 0, none⟩) (k + 1) cp') w5) := ⟨HB5.out, ⟨_, _, rfl⟩, by rw [HS.out, cellsS_snoc]; exact hown5⟩
      clear hown5 hg5 hB9 hnil hnil2 HO HB HB5
      go_wp2_with fail
      exact ⟨⟨k + 1, by omega, by go_num, HE⟩, by simp [intOf]; omega⟩
    · obtain rfl : k = N := by omega
      have HSx := Hid.mk9 (own_sms HO.out).1
      have hcp : k ≤ cp := HSx.out.2.1
      have HS2 : Hid (SmsAt wr (some ⟨g, 0, none⟩) 2 cp (evenL t s v m 2)) := Hid.mk9 (by rw [← evenL_take t s v m k (by omega)]; exact sms_two HSx.out (by omega))
      have HBy := Hid.mk9 (even_bytes HEv.out hN3 hN2)
      have hs1 := bytes_few (even_may HEv.out hN2)
      have hs2 := bytes_few (even_may HEv.out (show 2 ≤ 63 by omega))
      rw [← bytesOf_may (even_may HEv.out hN2)] at hs1
      rw [← bytesOf_may (even_may HEv.out (show 2 ≤ 63 by omega))] at hs2
      have hby := HBy.out
      have c1 : IntKind.i64.wrap ((k : Int) - 2) = ((k - 2 : Nat) : Int) := iw (by omega) (by omega) (by omega)
      have c2 : IntKind.i64.wrap (2 * ((k - 2 : Nat) : Int)) = ((2 * (k - 2) : Nat) : Int) := iw (by omega) (by omega) (by omega)
      have c3 : IntKind.i64.wrap ((bytesOf (evenL t s v m 2) : Int) + ((2 * (k - 2) : Nat) : Int)) = (bytesOf (evenL t s v m k) : Int) := iw (by omega) (by omega) (by omega)
      have C1 := Hid.mk9 c1
      have C2 := Hid.mk9 c2
      have C3 := Hid.mk9 c3
      clear hs1 hs2 hby c1 c2 c3
      go_upto_region 7 with fail
      refine even_7 _ _ _ _ _ _ _ _ _ _ _ _ _ _ _ _ _ _ _ _ _ _ _ _ _ _ _ _ _ _ _ _ _ _ _ _ _ _ _ _ _ _ _ _ _ _ _ _ _ _ _ _ _ _ _ _ _ _ _ _ _ _ _ _ _ _ _ g k cp (k - 2) (2 * (k - 2)) (bytesOf (evenL t s v m k)) (bytesOf (evenL t s v m 2)) wr _ C1.out C2.out C3.out (by omega) (Hid.mk9 fun W hW => (bytes_any _ _ _ _ W (HSx.out.below hW)).mono fun _ _ ⟨hb, he⟩ => ⟨he, hb⟩) (Hid.mk9 fun W hW => (bytes_any _ _ _ _ W (HS2.out.below hW)).mono fun _ _ ⟨hb, he⟩ => ⟨he, hb⟩) (Hid.mk9 fun W hW => bool_true (sameS_any _ _ _ _ _ _ _ _ W (HSx.out.below hW) (HSx.out.below hW)) rfl) (Hid.mk9 fun W hW => awake_t W) (Hid.mk9 fun u49 u50 u51 u52 u53 u54 u55 u56 u57 u58 u59 u60 u61 u62 u63 u64 u65 u66 u67 wC hb => ?_)
      have HE := Hid.mk9 (below2 HB.out hb)
      clear hb HSx HS2 HBy C1 C2 C3
      go_wp2_with fail
      go_ret
      exact ⟨rfl, HE.out⟩
end Go.Proofs.Ytfplncadjifgfaa.Bk
