/-
  The contract of Put: its drawn region, and the whole.
-/
import Derived.Test.YtppajhjfnlhmaaaSpD
import Derived.Test.YtppajhjfnlhmaaaSpE
namespace Go.Proofs.Ytppajhjfnlhmaaa.Bk
open Go.ChangeShapes Go.WideShapes Go.ChangeAt Go.RowKit
set_option maxHeartbeats 4000000 in
set_option maxRecDepth 60000 in
theorem put_8 (t1 t2 t4 t5 t6 t7 t9 t10 t11 t12 t13 t14 t15 t16 t17 t18 t19 t20 t21 t22 t23 t24 t25 t26 t27 t28 t29 t30 t31 t32 t33 t34 t35 : Value) (a a' : Option Addr) (len cap k B : Nat) (x y : Int) (ls : List Sm) (w1 : World) (Q : Exit → Act → World → Prop)
    (hB : SmBox w1 B x y) (h : SmsAt w1 a len cap ls) (hk : k ≤ len) (hl : (len : Int) ≤ 64)
    (hif : (if cap = k then a else Option.map (fun x => x.add (k * 2)) a) = a') (HR : Hid (∀ w, SmsAt w a len cap ls → SmsAt w a' (len - k) (cap - k) (ls.drop k)))
    (hQ : Hid (∀ (u26 u27 u28 u29 u30 u31 u32 u33 u34 u35 : Value) (v5 : Value) (B5 n5 : Nat) (wC : World), Below w1.heap.size w1 wC → wC.ownsRow B5 24 2 v5 n5 (cellsS (ls.take k ++ [(x, y)] ++ ls.drop k)) → Q .normal ⟨#[.slice a len cap, t1, t2, .pointer (some ⟨B, 0, none⟩), v5, .int .i64 0, t6, t7, .int .i64 (k : Int), t9, t10, t11, t12, t13, t14, t15, t16, t17, t18, t19, t20, t21, t22, t23, t24, t25, u26, u27, u28, u29, u30, u31, u32, u33, u34, u35], []⟩ wC)) :
    Code.wp Try.prog ((Try.f8.body.bind (regionOf 8)).getD .skip) Q ⟨#[.slice a len cap, t1, t2, .pointer (some ⟨B, 0, none⟩), t4, t5, t6, t7, .int .i64 (k : Int), t9, t10, t11, t12, t13, t14, t15, t16, t17, t18, t19, t20, t21, t22, t23, t24, t25, t26, t27, t28, t29, t30, t31, t32, t33, t34, t35], []⟩ w1 := by
  have HB := Hid.mk9 hB
  have HL := Hid.mk9 h
  have hlc : len ≤ cap := h.2.1
  have hcm : cap ≤ maxLen := h.2.2.1
  unfold maxLen at hcm
  have j1 : (k : Int) ≤ (len : Int) := by omega
  have j2 : (k : Int) ≤ (cap : Int) := by omega
  have j3 : (len : Int) ≤ (cap : Int) := by omega
  have j4 : (0 : Int) ≤ (k : Int) := by omega
  have HS : Hid (∀ w', Below w1.heap.size w1 w' → SmBox w' B x y ∧ Below w1.heap.size w1 w') := fun w' hb => ⟨HB.out.below hb, hb⟩
  clear h hB
  have hS : (fun w' => SmBox w' B x y ∧ Below w1.heap.size w1 w') w1.drew := HS.out _ (below_drew w1)
  conv => arg 2; whnf
  refine held_start (S := fun w' => SmBox w' B x y ∧ Below w1.heap.size w1 w') mixed5 ?_
  refine held_take (i := 0) (v := .slice a len cap) rfl (by kernel_rfl) (fun _ _ _ h => h) (.inl ⟨rfl, fun w hS => ?_⟩) hS ?_
  · obtain ⟨s0, -⟩ := hS
    go_simp
  try simp only [Act.put, List.setIfInBounds_toArray, List.set_cons_zero, List.set_cons_succ]
  refine held_take (i := 1) (v := .int .i64 (k : Int)) rfl (by kernel_rfl) (fun _ _ _ h => h) (.inl ⟨rfl, fun w hS => ?_⟩) hS ?_
  · obtain ⟨s0, -⟩ := hS
    go_simp
  try simp only [Act.put, List.setIfInBounds_toArray, List.set_cons_zero, List.set_cons_succ]
  refine held_take (i := 2) (v := .slice a k cap) rfl (by kernel_rfl) (fun _ _ _ h => h) (.inl ⟨rfl, fun w hS => ?_⟩) hS ?_
  · obtain ⟨s0, -⟩ := hS
    go_simp
  try simp only [Act.put, List.setIfInBounds_toArray, List.set_cons_zero, List.set_cons_succ]
  refine held_take (i := 3) (v := .agg #[.int .i64 x, .int .i64 y]) rfl (by kernel_rfl) (fun _ _ _ h => h) (.inl ⟨rfl, fun w hS => ?_⟩) hS ?_
  · obtain ⟨s0, -⟩ := hS
    have q1 := s0.c0
    have q2 := s0.c1
    clear s0
    go_simp
  try simp only [Act.put, List.setIfInBounds_toArray, List.set_cons_zero, List.set_cons_succ]
  refine held_take (i := 5) (v := .slice a len cap) rfl (by kernel_rfl) (fun _ _ _ h => h) (.inl ⟨rfl, fun w hS => ?_⟩) hS ?_
  · obtain ⟨s0, -⟩ := hS
    go_simp
  try simp only [Act.put, List.setIfInBounds_toArray, List.set_cons_zero, List.set_cons_succ]
  refine held_take (i := 6) (v := .int .i64 (k : Int)) rfl (by kernel_rfl) (fun _ _ _ h => h) (.inl ⟨rfl, fun w hS => ?_⟩) hS ?_
  · obtain ⟨s0, -⟩ := hS
    go_simp
  try simp only [Act.put, List.setIfInBounds_toArray, List.set_cons_zero, List.set_cons_succ]
  refine held_take (i := 7) (v := (.slice a' (len - k) (cap - k))) rfl (by kernel_rfl) (fun _ _ _ h => h) (.inl ⟨rfl, fun w hS => ?_⟩) hS ?_
  · obtain ⟨s0, -⟩ := hS
    go_simp
  try simp only [Act.put, List.setIfInBounds_toArray, List.set_cons_zero, List.set_cons_succ]
  clear hif
  generalize w1.drew = w2 at *
  refine held_one (i := 4) (by kernel_rfl) rfl rfl ?_
  intro K hK
  go_simp
  have b3 := below2 hS.2 (below_alloc w2 (.cells #[.int .i64 x, .int .i64 y] 24))
  refine hK.out _ _ (HS.out _ b3) ?_
  have hS9 := HS.out _ b3
  have O1 := Hid.mk9 (sms_lit w2 x y)
  clear hK hS b3
  have hS := hS9
  clear hS9
  try simp only [Act.put, List.setIfInBounds_toArray, List.set_cons_zero, List.set_cons_succ]
  generalize w2.alloc (.cells #[.int .i64 x, .int .i64 y] 24) = w3 at *
  generalize w2.heap.size = b1 at *
  refine held_one (i := 8) (by kernel_rfl) rfl rfl ?_
  intro K hK
  go_simp
  have b4 := below_alloc w3 (.cells #[.slice a k cap, .slice (some ⟨b1, 0, none⟩) 1 1, .slice a' (len - k) (cap - k)] 22)
  have b5 := below2 hS.2 b4
  refine hK.out _ _ (HS.out _ b5) ?_
  have hS9 := HS.out _ b5
  have O2 := Hid.mk9 (O1.out.below b4)
  have G0 : Hid ((w3.alloc (.cells #[.slice a k cap, .slice (some ⟨b1, 0, none⟩) 1 1, .slice a' (len - k) (cap - k)] 22)).cell? ⟨w3.heap.size, 0, none⟩ = some (.slice a k cap)) := Hid.mk9 (by simp)
  have G1 : Hid ((w3.alloc (.cells #[.slice a k cap, .slice (some ⟨b1, 0, none⟩) 1 1, .slice a' (len - k) (cap - k)] 22)).cell? ⟨w3.heap.size, 1, none⟩ = some (.slice (some ⟨b1, 0, none⟩) 1 1)) := Hid.mk9 (by simp)
  have G2 : Hid ((w3.alloc (.cells #[.slice a k cap, .slice (some ⟨b1, 0, none⟩) 1 1, .slice a' (len - k) (cap - k)] 22)).cell? ⟨w3.heap.size, 2, none⟩ = some (.slice a' (len - k) (cap - k))) := Hid.mk9 (by simp)
  clear hK hS b4 b5 O1
  have hS := hS9
  clear hS9
  try simp only [Act.put, List.setIfInBounds_toArray, List.set_cons_zero, List.set_cons_succ]
  generalize w3.alloc (.cells #[.slice a k cap, .slice (some ⟨b1, 0, none⟩) 1 1, .slice a' (len - k) (cap - k)] 22) = w4 at *
  generalize w3.heap.size = g1 at *
  refine held_one (i := 9) (by kernel_rfl) rfl rfl ?_
  intro K hK
  go_simp
  go_at_call 24
  refine (concat_any g1 a (some ⟨b1, 0, none⟩) a' k cap 1 1 (len - k) (cap - k) (k + 1) (len + 1) (ls.take k) [(x, y)] (ls.drop k) w4 G0.out G1.out G2.out (sms_first (HL.out.below hS.2) k hk) O2.out (HR.out _ (HL.out.below hS.2)) rfl (by omega) (by omega) (by omega)).mono ?_
  rintro e w5 ⟨hb5, v5, rfl, ho5⟩
  have b6 := below2 hS.2 hb5
  refine hK.out _ _ (HS.out _ b6) ?_
  have hS9 := HS.out _ b6
  have HO := Hid.mk9 ho5
  clear hK hb5 ho5 b6 hS
  have hS := hS9
  clear hS9
  try simp only [Act.put, List.setIfInBounds_toArray, List.set_cons_zero, List.set_cons_succ]
  refine held_take (i := 10) (v := v5) rfl (by kernel_rfl) (fun _ _ _ h => h) (.inl ⟨rfl, fun w hS => ?_⟩) hS ?_
  · obtain ⟨s0, -⟩ := hS
    go_simp
  try simp only [Act.put, List.setIfInBounds_toArray, List.set_cons_zero, List.set_cons_succ]
  refine held_take (i := 11) (v := .int .i64 0) rfl (by kernel_rfl) (fun _ _ _ h => h) (.inl ⟨rfl, fun w hS => ?_⟩) hS ?_
  · obtain ⟨s0, -⟩ := hS
    go_simp
  try simp only [Act.put, List.setIfInBounds_toArray, List.set_cons_zero, List.set_cons_succ]
  refine wpAnyH_done (by kernel_rfl) ?_ _
  refine NoPanic.normal ?_
  exact hQ.out _ _ _ _ _ _ _ _ _ _ v5 _ _ _ hS.2 HO.out
/-- behind Put -/
def PutPost (err : Int) (L : List Sm) (w : World) (e : Ending) (w' : World) : Prop := Below w.heap.size w w' ∧ ∃ a len cap, e = .returned (.tuple #[.slice a len cap, .int .i64 err]) ∧ SmsAt w' a len cap L
theorem put_post {err err' : Int} {L L' : List Sm} {w w' : World} {a : Option Addr} {len cap : Nat} (h1 : err' = err) (h2 : L' = L) (hb : Below w.heap.size w w') (hs : SmsAt w' a len cap L') : PutPost err L w (.returned (.tuple #[.slice a len cap, .int .i64 err'])) w' := by
  subst h1; subst h2; exact ⟨hb, a, len, cap, rfl, hs⟩
set_option maxRecDepth 60000 in
theorem put_no (a : Option Addr) (len cap : Nat) (ls : List Sm) (x y : Int) (w : World) (h : SmsAt w a len cap ls) (hM : ¬ MayS ls) :
    Calls Try.prog 8 #[.slice a len cap, .agg #[.int .i64 x, .int .i64 y]] w fun e w' => e = .returned (.tuple #[.slice none 0 0, .int .i64 1]) ∧ Below w.heap.size w w' := by
  have b0 := below_alloc w (.cells #[.int .i64 x, .int .i64 y] 24)
  have HC := Hid.mk9 (check_no (h.below b0) hM)
  clear h hM
  go_enter Try.func8, Try.ntmps8
  go_wp2_with (go_at_call 20; refine HC.out.mono ?_; rintro e w1 ⟨rfl, hb1⟩; have HB1 := Hid.mk9 (below2 b0 hb1); clear hb1)
  go_returns
  exact ⟨rfl, HB1.out⟩
set_option maxHeartbeats 2000000 in
set_option maxRecDepth 60000 in
theorem put_yes (a : Option Addr) (len cap : Nat) (ls : List Sm) (x y : Int) (w : World) (h : SmsAt w a len cap ls) (hM : MayS ls) :
    Calls Try.prog 8 #[.slice a len cap, .agg #[.int .i64 x, .int .i64 y]] w fun e w' => PutPost (putE ls (x, y)) (putL ls (x, y)) w e w' := by
  have hl : ls.length = len := h.1
  have hm : len ≤ 64 := by have := hM.1; omega
  have hm' : (len : Int) ≤ 64 := by omega
  have HL := Hid.mk9 h
  have b0 := below_alloc w (.cells #[.int .i64 x, .int .i64 y] 24)
  have HX := Hid.mk9 (SmBox.new w x y)
  have HC := Hid.mk9 (check_yes (h.below b0) hM)
  have HSo := Hid.mk9 ((may_iff ls).1 hM).2.2
  have HRf : Hid (∀ W, Below w.heap.size w W → Calls Try.prog 21 #[.slice a len cap, .agg #[.int .i64 x, .int .i64 y]] W fun e w' => e = .returned (.int .i64 (putE ls (x, y))) ∧ Below W.heap.size W w') := fun W hb => refusal_any a len cap ls x y W (h.below hb) hM
  clear h hM
  go_enter Try.func8, Try.ntmps8
  go_upto_region 4 with (go_at_call 20; refine HC.out.mono ?_; rintro e w1 ⟨rfl, hb1⟩)
  have HB := Hid.mk9 (below2 b0 hb1)
  replace HX := Hid.mk9 (HX.out.below hb1)
  have c0 := HX.out.c0
  have c1 := HX.out.c1
  clear hb1 HC b0
  by_cases hE : putE ls (x, y) = 0
  · have HE := Hid.mk9 hE
    have HLp : Hid (∀ k, Since ls x k → ls.take k ++ [(x, y)] ++ ls.drop k = putL ls (x, y)) := fun k hk => by
      rw [putL_yes hE, wth_since (s := (x, y)) hk HSo.out (putE_zero hE).2.1]; simp
    rw [hE] at HRf
    clear hE
    go_upto_region 7 with (go_at_call 21; refine (HRf.out _ HB.out).mono ?_; rintro e w2 ⟨rfl, hb2⟩)
    replace HB := Hid.mk9 (below2 HB.out hb2)
    replace HX := Hid.mk9 (HX.out.below hb2)
    clear c0 c1 hb2 HRf
    have c0 := HX.out.c0
    have c1 := HX.out.c1
    have HCs := Hid.mk9 (since_any a len cap ls x w2 (HL.out.below HB.out))
    go_upto_region 8 with (go_at_call 23; refine HCs.out.mono ?_; rintro e w3 ⟨hg3, k, rfl, hk⟩)
    have hb3 := grown_below hg3
    replace HB := Hid.mk9 (below2 HB.out hb3)
    replace HX := Hid.mk9 (HX.out.below hb3)
    have hkl : k ≤ len := by have := hk.1; omega
    obtain ⟨a', hif, hrow⟩ := slice_fromS a len cap ls k hkl
    have HRo := Hid.mk9 hrow
    have HLk := Hid.mk9 (HLp.out k hk)
    clear hg3 hk hb3 hrow HLp c0 c1 HCs
    refine put_8 _ _ _ _ _ _ _ _ _ _ _ _ _ _ _ _ _ _ _ _ _ _ _ _ _ _ _ _ _ _ _ _ _ a a' len cap k w.heap.size x y ls w3 _ HX.out (HL.out.below HB.out) hkl hm' hif HRo (Hid.mk9 (fun u26 u27 u28 u29 u30 u31 u32 u33 u34 u35 v5 B5 n5 w5 hb5 ho5 => ?_))
    obtain ⟨xa, xc, rfl, hs5⟩ := own_sms' ho5
    have HR := Hid.mk9 (put_post HE.out.symm HLk.out (below2 HB.out hb5) hs5)
    clear hb5 ho5 hs5 hif
    go_wp2_with fail
    go_returns
    exact HR.out
  · have HE := Hid.mk9 (putL_no hE).symm
    have hE' : (putE ls (x, y) != 0) = true := by simp [hE]
    generalize hEE : putE ls (x, y) = err at *
    have HEE := Hid.mk9 hEE.symm
    clear hEE
    go_wp2_with (first
      | (go_at_call 21; refine (HRf.out _ HB.out).mono ?_; rintro e w2 ⟨rfl, hb2⟩; replace HB := Hid.mk9 (below2 HB.out hb2); clear hb2)
      | (go_at_call 22; refine (copied_any _ _ _ ls _ (HL.out.below HB.out) (by omega)).mono ?_; rintro e w3 ⟨hb3, v3, rfl, ho3⟩; rw [hl] at ho3; obtain ⟨xa, xc, rfl, hs3⟩ := own_sms' ho3; have HR := Hid.mk9 (put_post (L := putL ls (x, y)) HEE.out HE.out (below2 HB.out hb3) hs3); clear hb3 ho3 hs3))
    go_returns
    exact HR.out
end Go.Proofs.Ytppajhjfnlhmaaa.Bk
