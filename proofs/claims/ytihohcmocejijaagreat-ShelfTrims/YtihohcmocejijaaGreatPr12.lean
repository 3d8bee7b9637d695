/-
  The contract of Put: its drawn region, and the whole.
  A shelf as it lies in memory: handed in, and of one's own in a box.
-/
import Derived.Test.YtihohcmocejijaaGreatPr11
import Derived.Test.YtihohcmocejijaaGreatPr08
import Derived.Lib.OwnKind
import Derived.OneCell
namespace Go.Proofs.YtihohcmocejijaaGreat.Bk
open Go.ChangeShapes Go.WideShapes Go.ChangeAt Go.RowKit
set_option maxHeartbeats 4000000 in
set_option maxRecDepth 60000 in
theorem put_8 (t1 t2 t4 t5 t6 t7 t9 t10 t11 t12 t13 t14 t15 t16 t17 t18 t19 t20 t21 t22 t23 t24 t25 t26 t27 t28 t29 t30 t31 t32 t33 t34 t35 : Value) (a a' : Option Addr) (len cap k B : Nat) (x y : Int) (ls : List Sm) (w1 : World) (Q : Exit → Act → World → Prop)
    (hB : SmBox w1 B x y) (h : SmsAt w1 a len cap ls) (hk : k ≤ len) (hl : (len : Int) ≤ 64)
    (hif : (if cap = k then a else Option.map (fun x => x.add (k * 2)) a) = a') (HR : Hid (∀ w, SmsAt w a len cap ls → SmsAt w a' (len - k) (cap - k) (ls.drop k)))
    (hQ : Hid (∀ (u26 u27 u28 u29 u30 u31 u32 u33 u34 u35 : Value) (v5 : Value) (B5 n5 : Nat) (wC : World), Below w1.heap.size w1 wC → wC.ownsRow B5 27 2 v5 n5 (cellsS (ls.take k ++ [(x, y)] ++ ls.drop k)) → Q .normal ⟨#[.slice a len cap, t1, t2, .pointer (some ⟨B, 0, none⟩), v5, .int .i64 0, t6, t7, .int .i64 (k : Int), t9, t10, t11, t12, t13, t14, t15, t16, t17, t18, t19, t20, t21, t22, t23, t24, t25, u26, u27, u28, u29, u30, u31, u32, u33, u34, u35], []⟩ wC)) :
    Code.wp Tryz.prog ((Tryz.f113.body.bind (regionOf 8)).getD .skip) Q ⟨#[.slice a len cap, t1, t2, .pointer (some ⟨B, 0, none⟩), t4, t5, t6, t7, .int .i64 (k : Int), t9, t10, t11, t12, t13, t14, t15, t16, t17, t18, t19, t20, t21, t22, t23, t24, t25, t26, t27, t28, t29, t30, t31, t32, t33, t34, t35], []⟩ w1 := by
  have HB := Hid.mk9 hB
  have HL := Hid.mk9 h
  have hlc : len ≤ cap := h.2.1
  have hcm : cap ≤ maxLen := h.2.2.1
  unfold maxLen at hcm
  have j1 : (k : Int) ≤ (len : Int) := by omega
  have j2 : (k : Int) ≤ (cap : Int) := by omega
  have j3 : (len : Int) ≤ (cap : Int) := by omega
  have j4 : (0 : Int) ≤ (k : Int) := by omega
  have HS : Hid (∀ w', Below w1.heap.size w1 w' → SmBox w' B x y ∧ Below w1.heap.size w1 w') := fun w' hb => ⟨HB.out.below hb, hb⟩
  clear h hB
  have hS : (fun w' => SmBox w' B x y ∧ Below w1.heap.size w1 w') w1.drew := HS.out _ (below_drew w1)
  conv => arg 2; whnf
  refine held_start (S := fun w' => SmBox w' B x y ∧ Below w1.heap.size w1 w') mixed5 ?_
  refine held_take (i := 0) (v := .slice a len cap) rfl (by kernel_rfl) (fun _ _ _ h => h) (.inl ⟨rfl, fun w hS => ?_⟩) hS ?_
  · obtain ⟨s0, -⟩ := hS
    go_simp
  try simp only [Act.put, List.setIfInBounds_toArray, List.set_cons_zero, List.set_cons_succ]
  refine held_take (i := 1) (v := .int .i64 (k : Int)) rfl (by kernel_rfl) (fun _ _ _ h => h) (.inl ⟨rfl, fun w hS => ?_⟩) hS ?_
  · obtain ⟨s0, -⟩ := hS
    go_simp
  try simp only [Act.put, List.setIfInBounds_toArray, List.set_cons_zero, List.set_cons_succ]
  refine held_take (i := 2) (v := .slice a k cap) rfl (by kernel_rfl) (fun _ _ _ h => h) (.inl ⟨rfl, fun w hS => ?_⟩) hS ?_
  · obtain ⟨s0, -⟩ := hS
    go_simp
  try simp only [Act.put, List.setIfInBounds_toArray, List.set_cons_zero, List.set_cons_succ]
  refine held_take (i := 3) (v := .agg #[.int .i64 x, .int .i64 y]) rfl (by kernel_rfl) (fun _ _ _ h => h) (.inl ⟨rfl, fun w hS => ?_⟩) hS ?_
  · obtain ⟨s0, -⟩ := hS
    have q1 := s0.c0
    have q2 := s0.c1
    clear s0
    go_simp
  try simp only [Act.put, List.setIfInBounds_toArray, List.set_cons_zero, List.set_cons_succ]
  refine held_take (i := 5) (v := .slice a len cap) rfl (by kernel_rfl) (fun _ _ _ h => h) (.inl ⟨rfl, fun w hS => ?_⟩) hS ?_
  · obtain ⟨s0, -⟩ := hS
    go_simp
  try simp only [Act.put, List.setIfInBounds_toArray, List.set_cons_zero, List.set_cons_succ]
  refine held_take (i := 6) (v := .int .i64 (k : Int)) rfl (by kernel_rfl) (fun _ _ _ h => h) (.inl ⟨rfl, fun w hS => ?_⟩) hS ?_
  · obtain ⟨s0, -⟩ := hS
    go_simp
  try simp only [Act.put, List.setIfInBounds_toArray, List.set_cons_zero, List.set_cons_succ]
  refine held_take (i := 7) (v := (.slice a' (len - k) (cap - k))) rfl (by kernel_rfl) (fun _ _ _ h => h) (.inl ⟨rfl, fun w hS => ?_⟩) hS ?_
  · obtain ⟨s0, -⟩ := hS
    go_simp
  try simp only [Act.put, List.setIfInBounds_toArray, List.set_cons_zero, List.set_cons_succ]
  clear hif
  generalize w1.drew = w2 at *
  refine held_one (i := 4) (by kernel_rfl) rfl rfl ?_
  intro K hK
  go_simp
  have b3 := below2 hS.2 (below_alloc w2 (.cells #[.int .i64 x, .int .i64 y] 27))
  refine hK.out _ _ (HS.out _ b3) ?_
  have hS9 := HS.out _ b3
  have O1 := Hid.mk9 (sms_lit w2 x y)
  clear hK hS b3
  have hS := hS9
  clear hS9
  try simp only [Act.put, List.setIfInBounds_toArray, List.set_cons_zero, List.set_cons_succ]
  generalize w2.alloc (.cells #[.int .i64 x, .int .i64 y] 27) = w3 at *
  generalize w2.heap.size = b1 at *
  refine held_one (i := 8) (by kernel_rfl) rfl rfl ?_
  intro K hK
  go_simp
  have b4 := below_alloc w3 (.cells #[.slice a k cap, .slice (some ⟨b1, 0, none⟩) 1 1, .slice a' (len - k) (cap - k)] 53)
  have b5 := below2 hS.2 b4
  refine hK.out _ _ (HS.out _ b5) ?_
  have hS9 := HS.out _ b5
  have O2 := Hid.mk9 (O1.out.below b4)
  have G0 : Hid ((w3.alloc (.cells #[.slice a k cap, .slice (some ⟨b1, 0, none⟩) 1 1, .slice a' (len - k) (cap - k)] 53)).cell? ⟨w3.heap.size, 0, none⟩ = some (.slice a k cap)) := Hid.mk9 (by simp)
  have G1 : Hid ((w3.alloc (.cells #[.slice a k cap, .slice (some ⟨b1, 0, none⟩) 1 1, .slice a' (len - k) (cap - k)] 53)).cell? ⟨w3.heap.size, 1, none⟩ = some (.slice (some ⟨b1, 0, none⟩) 1 1)) := Hid.mk9 (by simp)
  have G2 : Hid ((w3.alloc (.cells #[.slice a k cap, .slice (some ⟨b1, 0, none⟩) 1 1, .slice a' (len - k) (cap - k)] 53)).cell? ⟨w3.heap.size, 2, none⟩ = some (.slice a' (len - k) (cap - k))) := Hid.mk9 (by simp)
  clear hK hS b4 b5 O1
  have hS := hS9
  clear hS9
  try simp only [Act.put, List.setIfInBounds_toArray, List.set_cons_zero, List.set_cons_succ]
  generalize w3.alloc (.cells #[.slice a k cap, .slice (some ⟨b1, 0, none⟩) 1 1, .slice a' (len - k) (cap - k)] 53) = w4 at *
  generalize w3.heap.size = g1 at *
  refine held_one (i := 9) (by kernel_rfl) rfl rfl ?_
  intro K hK
  go_simp
  go_at_call 132
  refine (concat_any g1 a (some ⟨b1, 0, none⟩) a' k cap 1 1 (len - k) (cap - k) (k + 1) (len + 1) (ls.take k) [(x, y)] (ls.drop k) w4 G0.out G1.out G2.out (sms_first (HL.out.below hS.2) k hk) O2.out (HR.out _ (HL.out.below hS.2)) rfl (by omega) (by omega) (by omega)).mono ?_
  rintro e w5 ⟨hb5, v5, rfl, ho5⟩
  have b6 := below2 hS.2 hb5
  refine hK.out _ _ (HS.out _ b6) ?_
  have hS9 := HS.out _ b6
  have HO := Hid.mk9 ho5
  clear hK hb5 ho5 b6 hS
  have hS := hS9
  clear hS9
  try simp only [Act.put, List.setIfInBounds_toArray, List.set_cons_zero, List.set_cons_succ]
  refine held_take (i := 10) (v := v5) rfl (by kernel_rfl) (fun _ _ _ h => h) (.inl ⟨rfl, fun w hS => ?_⟩) hS ?_
  · obtain ⟨s0, -⟩ := hS
    go_simp
  try simp only [Act.put, List.setIfInBounds_toArray, List.set_cons_zero, List.set_cons_succ]
  refine held_take (i := 11) (v := .int .i64 0) rfl (by kernel_rfl) (fun _ _ _ h => h) (.inl ⟨rfl, fun w hS => ?_⟩) hS ?_
  · obtain ⟨s0, -⟩ := hS
    go_simp
  try simp only [Act.put, List.setIfInBounds_toArray, List.set_cons_zero, List.set_cons_succ]
  refine wpAnyH_done (by kernel_rfl) ?_ _
  refine NoPanic.normal ?_
  exact hQ.out _ _ _ _ _ _ _ _ _ _ v5 _ _ _ hS.2 HO.out
def PutPostT (err : Int) (L : List Sm) (w : World) (e : Ending) (w' : World) : Prop := Below w.heap.size w w' ∧ ∃ a len cap, e = .returned (.tuple #[.slice a len cap, .int .i64 err]) ∧ SmsAt w' a len cap L ∧ TyS w' a
theorem put_postT {err err' : Int} {L L' : List Sm} {w w' : World} {a : Option Addr} {len cap : Nat} (h1 : err' = err) (h2 : L' = L) (hb : Below w.heap.size w w') (hs : SmsAt w' a len cap L') (ht : TyS w' a) : PutPostT err L w (.returned (.tuple #[.slice a len cap, .int .i64 err'])) w' := by
  subst h1; subst h2; exact ⟨hb, a, len, cap, rfl, hs, ht⟩
set_option maxHeartbeats 2000000 in
set_option maxRecDepth 60000 in
theorem put_yes (a : Option Addr) (len cap : Nat) (ls : List Sm) (x y : Int) (w : World) (h : SmsAt w a len cap ls) (hM : MayS ls) :
    Calls Tryz.prog 113 #[.slice a len cap, .agg #[.int .i64 x, .int .i64 y]] w fun e w' => PutPostT (putE ls (x, y)) (putL ls (x, y)) w e w' := by
  have hl : ls.length = len := h.1
  have hm : len ≤ 64 := by have := hM.1; omega
  have hm' : (len : Int) ≤ 64 := by omega
  have HL := Hid.mk9 h
  have b0 := below_alloc w (.cells #[.int .i64 x, .int .i64 y] 27)
  have HX := Hid.mk9 (SmBox.new w x y)
  have HC := Hid.mk9 (check_yes (h.below b0) hM)
  have HSo := Hid.mk9 ((may_iff ls).1 hM).2.2
  have HRf : Hid (∀ W, Below w.heap.size w W → Calls Tryz.prog 131 #[.slice a len cap, .agg #[.int .i64 x, .int .i64 y]] W fun e w' => e = .returned (.int .i64 (putE ls (x, y))) ∧ Below W.heap.size W w') := fun W hb => refusal_any a len cap ls x y W (h.below hb) hM
  clear h hM
  go_enter Tryz.func113, Tryz.ntmps113
  go_upto_region 4 with (go_at_call 53; refine HC.out.mono ?_; rintro e w1 ⟨rfl, hb1⟩)
  have HB := Hid.mk9 (below2 b0 hb1)
  replace HX := Hid.mk9 (HX.out.below hb1)
  have c0 := HX.out.c0
  have c1 := HX.out.c1
  clear hb1 HC b0
  by_cases hE : putE ls (x, y) = 0
  · have HE := Hid.mk9 hE
    have HLp : Hid (∀ k, Since ls x k → ls.take k ++ [(x, y)] ++ ls.drop k = putL ls (x, y)) := fun k hk => by
      rw [putL_yes hE, wth_since (s := (x, y)) hk HSo.out (putE_zero hE).2.1]; simp
    rw [hE] at HRf
    clear hE
    go_upto_region 7 with (go_at_call 131; refine (HRf.out _ HB.out).mono ?_; rintro e w2 ⟨rfl, hb2⟩)
    replace HB := Hid.mk9 (below2 HB.out hb2)
    replace HX := Hid.mk9 (HX.out.below hb2)
    clear c0 c1 hb2 HRf
    have c0 := HX.out.c0
    have c1 := HX.out.c1
    have HCs := Hid.mk9 (since_any a len cap ls x w2 (HL.out.below HB.out))
    go_upto_region 8 with (go_at_call 88; refine HCs.out.mono ?_; rintro e w3 ⟨hg3, k, rfl, hk⟩)
    have hb3 := grown_below hg3
    replace HB := Hid.mk9 (below2 HB.out hb3)
    replace HX := Hid.mk9 (HX.out.below hb3)
    have hkl : k ≤ len := by have := hk.1; omega
    obtain ⟨a', hif, hrow⟩ := slice_fromS a len cap ls k hkl
    have HRo := Hid.mk9 hrow
    have HLk := Hid.mk9 (HLp.out k hk)
    clear hg3 hk hb3 hrow HLp c0 c1 HCs
    refine put_8 _ _ _ _ _ _ _ _ _ _ _ _ _ _ _ _ _ _ _ _ _ _ _ _ _ _ _ _ _ _ _ _ _ a a' len cap k w.heap.size x y ls w3 _ HX.out (HL.out.below HB.out) hkl hm' hif HRo (Hid.mk9 (fun u26 u27 u28 u29 u30 u31 u32 u33 u34 u35 v5 B5 n5 w5 hb5 ho5 => ?_))
    obtain ⟨xa, xc, rfl, hs5⟩ := own_sms' ho5
    have HR := Hid.mk9 (put_postT HE.out.symm HLk.out (below2 HB.out hb5) hs5 (own_ty ho5))
    clear hb5 ho5 hs5 hif
    go_wp2_with fail
    go_returns
    exact HR.out
  · have HE := Hid.mk9 (putL_no hE).symm
    have hE' : (putE ls (x, y) != 0) = true := by simp [hE]
    generalize hEE : putE ls (x, y) = err at *
    have HEE := Hid.mk9 hEE.symm
    clear hEE
    go_wp2_with (first
      | (go_at_call 131; refine (HRf.out _ HB.out).mono ?_; rintro e w2 ⟨rfl, hb2⟩; replace HB := Hid.mk9 (below2 HB.out hb2); clear hb2)
      | (go_at_call 89; refine (copied_any _ _ _ ls _ (HL.out.below HB.out) (by omega)).mono ?_; rintro e w3 ⟨hb3, v3, rfl, ho3⟩; rw [hl] at ho3; obtain ⟨xa, xc, rfl, hs3⟩ := own_sms' ho3; have HR := Hid.mk9 (put_postT (L := putL ls (x, y)) HEE.out HE.out (below2 HB.out hb3) hs3 (own_ty ho3)); clear hb3 ho3 hs3))
    go_returns
    exact HR.out
end Go.Proofs.YtihohcmocejijaaGreat.Bk
namespace Go.Proofs.YtihohcmocejijaaGreat.Bk
open Go.ChangeShapes Go.WideShapes Go.ChangeAt Go.RowKit
abbrev LX := ByteArray × Value × List Sm
def lx0 : LX := (⟨#[]⟩, .slice none 0 0, [])
def cellsX (X : List LX) : List Value := X.flatMap fun x => [.string x.1, x.2.1]
theorem cellsX_append (L M : List LX) : cellsX (L ++ M) = cellsX L ++ cellsX M := by simp [cellsX]
theorem cellsX_length (L : List LX) : (cellsX L).length = L.length * 2 := by
  induction L with
  | nil => rfl
  | cons a l ih => rw [show a :: l = [a] ++ l from rfl, cellsX_append, List.length_append, ih]; simp [cellsX]; omega
theorem cellsX_at (L : List LX) : ∀ i, i < L.length → (cellsX L)[i * 2]? = some (.string (L.getD i lx0).1) ∧ (cellsX L)[i * 2 + 1]? = some (L.getD i lx0).2.1 := by
  induction L with
  | nil => intro i h; simp at h
  | cons a l ih =>
    intro i h
    cases i with
    | zero => simp [cellsX]
    | succ i =>
      have := ih i (by simpa using h)
      rw [show (i + 1) * 2 = i * 2 + 2 from by omega, show i * 2 + 2 + 1 = (i * 2 + 1) + 2 from by omega]
      simpa [cellsX] using this
theorem cellsX_take (L : List LX) (k : Nat) : cellsX (L.take k) = (cellsX L).take (k * 2) := by
  induction L generalizing k with
  | nil => simp [cellsX]
  | cons a l ih =>
    cases k with
    | zero => simp [cellsX]
    | succ k =>
      have e := ih k
      rw [show (k + 1) * 2 = k * 2 + 1 + 1 from by omega]
      simp only [cellsX, List.take_succ_cons, List.flatMap_cons] at e ⊢
      rw [e]
      simp
theorem cellsX_drop (L : List LX) (k : Nat) : cellsX (L.drop k) = (cellsX L).drop (k * 2) := by
  induction L generalizing k with
  | nil => simp [cellsX]
  | cons a l ih =>
    cases k with
    | zero => simp
    | succ k =>
      have e := ih k
      rw [show (k + 1) * 2 = k * 2 + 1 + 1 from by omega]
      simp only [cellsX, List.drop_succ_cons, List.flatMap_cons] at e ⊢
      rw [e]
      simp
def lnsX (X : List LX) : List Ln := X.map fun x => (x.1, x.2.2)
theorem lnsX_getD (X : List LX) (i : Nat) : (lnsX X).getD i ln0 = ((X.getD i lx0).1, (X.getD i lx0).2.2) := by
  unfold lnsX
  rw [List.getD_eq_getElem?_getD, List.getD_eq_getElem?_getD, List.getElem?_map]
  cases X[i]? <;> rfl
def RowX (w : World) (x : LX) : Prop := ∃ a n c, x.2.1 = .slice a n c ∧ SmsAt w a n c x.2.2 ∧ TyS w a
def RowsX (w : World) (X : List LX) : Prop := ∀ x ∈ X, RowX w x
def KS (w w' : World) : Prop := ∀ (k : Nat) (cs : Array Value) (fz : Nat × Nat), w.heap[k]? = some (.cells cs 27 fz) → w'.heap[k]? = some (.cells cs 27 fz)
theorem KS.trans {a b c : World} (h : KS a b) (k : KS b c) : KS a c := fun i cs fz hi => k i cs fz (h i cs fz hi)
theorem KS.of_below {w w' : World} (h : Below w.heap.size w w') : KS w w' := fun k _ _ hk => (h.block k (Array.getElem?_eq_some_iff.1 hk).1).trans hk
theorem cell_block {w w' : World} {p : Addr} (h : w'.heap[p.block]? = w.heap[p.block]?) : w'.cell? p = w.cell? p := by
  unfold World.cell?
  rw [h]
theorem SmsAt.ks {w w' : World} {a : Option Addr} {n c : Nat} {L : List Sm} (h : SmsAt w a n c L) (ht : TyS w a) (hk : KS w w') : SmsAt w' a n c L := by
  refine ⟨h.1, h.2.1, h.2.2.1, ?_⟩
  rcases h.2.2.2 with h0 | ⟨b, off, e, hc⟩
  · exact .inl h0
  · obtain ⟨cs, fz, hb⟩ := ht _ e
    have hb' : w'.heap[b]? = w.heap[b]? := (hk b cs fz hb).trans hb.symm
    exact .inr ⟨b, off, e, fun i hi => ⟨(cell_block (p := ⟨b, off + i * 2, none⟩) hb').trans (hc i hi).1, (cell_block (p := ⟨b, off + i * 2 + 1, none⟩) hb').trans (hc i hi).2⟩⟩
theorem TyS.ks {w w' : World} {a : Option Addr} (h : TyS w a) (hk : KS w w') : TyS w' a := fun p hp => by
  obtain ⟨cs, fz, hb⟩ := h p hp
  exact ⟨cs, fz, hk _ cs fz hb⟩
theorem RowX.ks {w w' : World} {x : LX} (h : RowX w x) (hk : KS w w') : RowX w' x := by
  obtain ⟨a, n, c, e, h1, h2⟩ := h
  exact ⟨a, n, c, e, h1.ks h2 hk, h2.ks hk⟩
theorem RowsX.ks {w w' : World} {X : List LX} (h : RowsX w X) (hk : KS w w') : RowsX w' X := fun x hx => (h x hx).ks hk
theorem cellsX_one {w : World} {X : List LX} (h : RowsX w X) : ∀ u ∈ cellsX X, u.oneCell' = true := by
  intro u hu
  unfold cellsX at hu
  rw [List.mem_flatMap] at hu
  obtain ⟨x, hx, hu⟩ := hu
  obtain ⟨a, n, c, e, _⟩ := h x hx
  simp only [List.mem_cons, List.mem_nil_iff, or_false] at hu
  rcases hu with rfl | rfl
  · rfl
  · rw [e]; rfl
def anV (a : An) : Value := .agg #[.int .i64 a.cd, .bool a.hs, .int .i64 a.nn]
def dnV (d : Dn) : Value := .agg #[.int .i64 d.cl, .int .i64 d.id, .int .i64 d.an.cd, .bool d.an.hs, .int .i64 d.an.nn]
def opV (o : Opp) : Value := .agg #[.int .i64 o.k, .string o.s, .int .i64 o.t, .int .i64 o.v, .int .i64 o.f, .int .i64 o.u, .int .i64 o.m]
def entV (e : Ent) : Value := .agg #[.int .i64 e.ep, .int .i64 e.cl, .int .i64 e.id, .int .i64 e.op.k, .string e.op.s, .int .i64 e.op.t, .int .i64 e.op.v, .int .i64 e.op.f, .int .i64 e.op.u, .int .i64 e.op.m]
def dnL (d : Dn) : List Value := [.int .i64 d.cl, .int .i64 d.id, .int .i64 d.an.cd, .bool d.an.hs, .int .i64 d.an.nn]
def cellsD (D : List Dn) : List Value := D.flatMap dnL
theorem cellsD_append (L M : List Dn) : cellsD (L ++ M) = cellsD L ++ cellsD M := by simp [cellsD]
theorem cellsD_length (L : List Dn) : (cellsD L).length = L.length * 5 := by
  induction L with
  | nil => rfl
  | cons a l ih => rw [show a :: l = [a] ++ l from rfl, cellsD_append, List.length_append, ih]; simp [cellsD, dnL]; omega
theorem cellsD_one (L : List Dn) : ∀ u ∈ cellsD L, u.oneCell' = true := by
  intro u hu
  unfold cellsD at hu
  rw [List.mem_flatMap] at hu
  obtain ⟨x, _, hu⟩ := hu
  simp only [dnL, List.mem_cons, List.mem_nil_iff, or_false] at hu
  rcases hu with rfl | rfl | rfl | rfl | rfl <;> rfl
theorem cellsD_at (L : List Dn) : ∀ i, i < L.length → ∀ j, j < 5 → (cellsD L)[i * 5 + j]? = (dnL (L.getD i dn0))[j]? := by
  induction L with
  | nil => intro i h; simp at h
  | cons a l ih =>
    intro i h j hj
    cases i with
    | zero =>
      simp only [cellsD, List.flatMap_cons, Nat.zero_mul, Nat.zero_add]
      rw [List.getElem?_append_left (by simp [dnL]; omega)]
      rfl
    | succ i =>
      have := ih i (by simpa using h) j hj
      simp only [cellsD, List.flatMap_cons]
      rw [List.getElem?_append_right (by simp [dnL]; omega), show (i + 1) * 5 + j - (dnL a).length = i * 5 + j from by simp [dnL]; omega]
      exact this
theorem cellsD_take (L : List Dn) (k : Nat) : cellsD (L.take k) = (cellsD L).take (k * 5) := by
  induction L generalizing k with
  | nil => simp [cellsD]
  | cons a l ih =>
    cases k with
    | zero => simp [cellsD]
    | succ k =>
      have e := ih k
      rw [show (k + 1) * 5 = k * 5 + 1 + 1 + 1 + 1 + 1 from by omega]
      simp only [cellsD, dnL, List.take_succ_cons, List.flatMap_cons] at e ⊢
      rw [e]
      simp
theorem cellsD_drop (L : List Dn) (k : Nat) : cellsD (L.drop k) = (cellsD L).drop (k * 5) := by
  induction L generalizing k with
  | nil => simp [cellsD]
  | cons a l ih =>
    cases k with
    | zero => simp
    | succ k =>
      have e := ih k
      rw [show (k + 1) * 5 = k * 5 + 1 + 1 + 1 + 1 + 1 from by omega]
      simp only [cellsD, dnL, List.drop_succ_cons, List.flatMap_cons] at e ⊢
      rw [e]
      simp
def LnsAt (w : World) (a : Option Addr) (len cap : Nat) (ls : List Ln) : Prop :=
  ls.length = len ∧ len ≤ cap ∧ cap ≤ maxLen ∧ (len = 0 ∨ ∃ b off, a = some ⟨b, off, none⟩ ∧ ∀ i, i < len → w.cell? ⟨b, off + i * 2, none⟩ = some (.string (ls.getD i ln0).1) ∧ ∃ a' n' c', w.cell? ⟨b, off + i * 2 + 1, none⟩ = some (.slice a' n' c') ∧ SmsAt w a' n' c' (ls.getD i ln0).2)
theorem LnsAt.below {w w' : World} {a : Option Addr} {len cap : Nat} {ls : List Ln} (h : LnsAt w a len cap ls) (hb : Below w.heap.size w w') : LnsAt w' a len cap ls := by
  refine ⟨h.1, h.2.1, h.2.2.1, ?_⟩
  rcases h.2.2.2 with h0 | ⟨b, off, e, hc⟩
  · exact .inl h0
  · refine .inr ⟨b, off, e, fun i hi => ?_⟩
    obtain ⟨c0, a', n', c', c1, hs⟩ := hc i hi
    have hlt : b < w.heap.size := World.block_lt_of_cell? w ⟨b, off + i * 2, none⟩ c0
    exact ⟨(hb.cell (p := ⟨b, off + i * 2, none⟩) hlt).trans c0, a', n', c', (hb.cell (p := ⟨b, off + i * 2 + 1, none⟩) hlt).trans c1, hs.below hb⟩
theorem LnsAt.some {w : World} {a : Option Addr} {len cap : Nat} {ls : List Ln} (h : LnsAt w a len cap ls) (h0 : 0 < len) :
    ∃ b off, a = Option.some ⟨b, off, none⟩ ∧ b < w.heap.size ∧ ∀ i, i < len → w.cell? ⟨b, off + i * 2, none⟩ = Option.some (.string (ls.getD i ln0).1) ∧ ∃ a' n' c', w.cell? ⟨b, off + i * 2 + 1, none⟩ = Option.some (.slice a' n' c') ∧ SmsAt w a' n' c' (ls.getD i ln0).2 := by
  rcases h.2.2.2 with h | ⟨b, off, e, h⟩
  · omega
  · exact ⟨b, off, e, World.block_lt_of_cell? w ⟨b, off + 0 * 2, none⟩ (h 0 h0).1, h⟩
def DnCells (w : World) (b o : Nat) (d : Dn) : Prop := w.cell? ⟨b, o, none⟩ = some (.int .i64 d.cl) ∧ w.cell? ⟨b, o + 1, none⟩ = some (.int .i64 d.id) ∧ w.cell? ⟨b, o + 2, none⟩ = some (.int .i64 d.an.cd) ∧ w.cell? ⟨b, o + 3, none⟩ = some (.bool d.an.hs) ∧ w.cell? ⟨b, o + 4, none⟩ = some (.int .i64 d.an.nn)
def DnsAt (w : World) (a : Option Addr) (len cap : Nat) (ds : List Dn) : Prop :=
  ds.length = len ∧ len ≤ cap ∧ cap ≤ maxLen ∧ (len = 0 ∨ ∃ b off, a = some ⟨b, off, none⟩ ∧ ∀ i, i < len → DnCells w b (off + i * 5) (ds.getD i dn0))
theorem DnCells.below {w w' : World} {b o : Nat} {d : Dn} (h : DnCells w b o d) (hb : Below w.heap.size w w') : DnCells w' b o d := by
  have hlt : b < w.heap.size := World.block_lt_of_cell? w ⟨b, o, none⟩ h.1
  obtain ⟨h0, h1, h2, h3, h4⟩ := h
  exact ⟨(hb.cell (p := ⟨b, o, none⟩) hlt).trans h0, (hb.cell (p := ⟨b, o + 1, none⟩) hlt).trans h1, (hb.cell (p := ⟨b, o + 2, none⟩) hlt).trans h2, (hb.cell (p := ⟨b, o + 3, none⟩) hlt).trans h3, (hb.cell (p := ⟨b, o + 4, none⟩) hlt).trans h4⟩
theorem DnsAt.below {w w' : World} {a : Option Addr} {len cap : Nat} {ds : List Dn} (h : DnsAt w a len cap ds) (hb : Below w.heap.size w w') : DnsAt w' a len cap ds := by
  refine ⟨h.1, h.2.1, h.2.2.1, ?_⟩
  rcases h.2.2.2 with h0 | ⟨b, off, e, hc⟩
  · exact .inl h0
  · exact .inr ⟨b, off, e, fun i hi => (hc i hi).below hb⟩
theorem DnsAt.some {w : World} {a : Option Addr} {len cap : Nat} {ds : List Dn} (h : DnsAt w a len cap ds) (h0 : 0 < len) :
    ∃ b off, a = Option.some ⟨b, off, none⟩ ∧ b < w.heap.size ∧ ∀ i, i < len → DnCells w b (off + i * 5) (ds.getD i dn0) := by
  rcases h.2.2.2 with h | ⟨b, off, e, h⟩
  · omega
  · exact ⟨b, off, e, World.block_lt_of_cell? w ⟨b, off + 0 * 5, none⟩ (h 0 h0).1, h⟩
def ShAt (w : World) (v : Value) (s : Shf) : Prop := ∃ la ln lc da dn dc, v = .agg #[.slice la ln lc, .slice da dn dc, .int .i64 s.fl] ∧ LnsAt w la ln lc s.ls ∧ DnsAt w da dn dc s.ds
theorem ShAt.below {w w' : World} {v : Value} {s : Shf} (h : ShAt w v s) (hb : Below w.heap.size w w') : ShAt w' v s := by
  obtain ⟨la, ln, lc, da, dn, dc, e, h1, h2⟩ := h
  exact ⟨la, ln, lc, da, dn, dc, e, h1.below hb, h2.below hb⟩
theorem own_lns {w : World} {B : Nat} {la : Option Addr} {lc : Nat} {X : List LX} (h : w.ownsRow B 55 2 (.slice la X.length lc) X.length (cellsX X)) (hr : RowsX w X) : LnsAt w la X.length lc (lnsX X) := by
  obtain ⟨h1, ⟨e, h0⟩ | ⟨g, cap, cur, e, hr'⟩⟩ := id h
  · injection e with e1 e2 e3
    exact ⟨by simp [lnsX], by omega, by unfold maxLen; omega, .inl h0⟩
  · injection e with e1 e2 e3
    subst e1 e3
    refine ⟨by simp [lnsX], hr'.2.2.1, hr'.2.2.2.1, .inr ⟨g, 0, rfl, fun i hi => ?_⟩⟩
    obtain ⟨q1, q2⟩ := cellsX_at X i hi
    have hm : X.getD i lx0 ∈ X := by rw [List.getD_eq_getElem?_getD, List.getElem?_eq_getElem hi]; exact List.getElem_mem hi
    obtain ⟨a', n', c', e', hs, _⟩ := hr _ hm
    rw [Nat.zero_add, h.cellAt (i * 2) (by omega), h.cellAt (i * 2 + 1) (by omega), lnsX_getD]
    exact ⟨q1, a', n', c', by rw [q2, e'], hs⟩
theorem own_dns {w : World} {B : Nat} {da : Option Addr} {dc : Nat} {ds : List Dn} (h : w.ownsRow B 51 5 (.slice da ds.length dc) ds.length (cellsD ds)) : DnsAt w da ds.length dc ds := by
  obtain ⟨h1, ⟨e, h0⟩ | ⟨g, cap, cur, e, hr'⟩⟩ := id h
  · injection e with e1 e2 e3
    exact ⟨rfl, by omega, by unfold maxLen; omega, .inl h0⟩
  · injection e with e1 e2 e3
    subst e1 e3
    refine ⟨rfl, hr'.2.2.1, hr'.2.2.2.1, .inr ⟨g, 0, rfl, fun i hi => ?_⟩⟩
    have q := cellsD_at ds i hi
    rw [Nat.zero_add]
    refine ⟨?_, ?_, ?_, ?_, ?_⟩
    · rw [h.cellAt (i * 5) (by omega)]; exact q 0 (by omega)
    · rw [h.cellAt (i * 5 + 1) (by omega)]; exact q 1 (by omega)
    · rw [h.cellAt (i * 5 + 2) (by omega)]; exact q 2 (by omega)
    · rw [h.cellAt (i * 5 + 3) (by omega)]; exact q 3 (by omega)
    · rw [h.cellAt (i * 5 + 4) (by omega)]; exact q 4 (by omega)
def LvA (B p : Nat) (la : Option Addr) (lc : Nat) (X : List LX) (da : Option Addr) (dc : Nat) (ds : List Dn) (fl : Int) (w : World) : Prop :=
  w.heap[p]? = some (.cells #[.slice la X.length lc, .slice da ds.length dc, .int .i64 fl] 25 (0, 0)) ∧ B ≤ p ∧ w.ownsRow B 55 2 (.slice la X.length lc) X.length (cellsX X) ∧ RowsX w X ∧ w.ownsRow B 51 5 (.slice da ds.length dc) ds.length (cellsD ds)
def LvS (B p : Nat) (s : Shf) (w : World) : Prop := ∃ la lc X da dc, LvA B p la lc X da dc s.ds s.fl w ∧ lnsX X = s.ls
def KpS (p : Nat) (w w' : World) : Prop := ∀ (k : Nat) (o : Obj), w.heap[k]? = some o → k ≠ p → (∀ c fz, o ≠ .cells c 55 fz) → (∀ c fz, o ≠ .cells c 51 fz) → w'.heap[k]? = some o
theorem KpS.trans {p : Nat} {a b c : World} (h : KpS p a b) (k : KpS p b c) : KpS p a c := fun i o hi hp h1 h2 => k i o (h i o hi hp h1 h2) hp h1 h2
theorem KpS.of_below {p : Nat} {w w' : World} (h : Below w.heap.size w w') : KpS p w w' := fun k _ hk _ _ _ => (h.block k (Array.getElem?_eq_some_iff.1 hk).1).trans hk
section
variable {B p : Nat} {la : Option Addr} {lc : Nat} {X : List LX} {da : Option Addr} {dc : Nat} {ds : List Dn} {fl : Int} {w : World}
theorem LvA.lt (h : LvA B p la lc X da dc ds fl w) : p < w.heap.size := (Array.getElem?_eq_some_iff.1 h.1).1
theorem LvA.c0 (h : LvA B p la lc X da dc ds fl w) : w.cell? ⟨p, 0, none⟩ = some (.slice la X.length lc) := by unfold World.cell?; rw [show w.heap[(⟨p, 0, none⟩ : Addr).block]? = _ from h.1]; rfl
theorem LvA.c1 (h : LvA B p la lc X da dc ds fl w) : w.cell? ⟨p, 1, none⟩ = some (.slice da ds.length dc) := by unfold World.cell?; rw [show w.heap[(⟨p, 1, none⟩ : Addr).block]? = _ from h.1]; rfl
theorem LvA.c2 (h : LvA B p la lc X da dc ds fl w) : w.cell? ⟨p, 2, none⟩ = some (.int .i64 fl) := by unfold World.cell?; rw [show w.heap[(⟨p, 2, none⟩ : Addr).block]? = _ from h.1]; rfl
theorem LvA.f0 (h : LvA B p la lc X da dc ds fl w) : w.frozen? ⟨p, 0, none⟩ = false := by unfold World.frozen?; rw [show w.heap[(⟨p, 0, none⟩ : Addr).block]? = _ from h.1]; rfl
theorem LvA.f1 (h : LvA B p la lc X da dc ds fl w) : w.frozen? ⟨p, 1, none⟩ = false := by unfold World.frozen?; rw [show w.heap[(⟨p, 1, none⟩ : Addr).block]? = _ from h.1]; rfl
theorem LvA.f2 (h : LvA B p la lc X da dc ds fl w) : w.frozen? ⟨p, 2, none⟩ = false := by unfold World.frozen?; rw [show w.heap[(⟨p, 2, none⟩ : Addr).block]? = _ from h.1]; rfl
theorem LvA.lns (h : LvA B p la lc X da dc ds fl w) : LnsAt w la X.length lc (lnsX X) := own_lns h.2.2.1 h.2.2.2.1
theorem LvA.dns (h : LvA B p la lc X da dc ds fl w) : DnsAt w da ds.length dc ds := own_dns h.2.2.2.2
theorem LvA.below {w' : World} (h : LvA B p la lc X da dc ds fl w) (hb : Below w.heap.size w w') : LvA B p la lc X da dc ds fl w' :=
  ⟨(hb.block p h.lt).trans h.1, h.2.1, own_below h.2.2.1 hb, h.2.2.2.1.ks (KS.of_below hb), own_below h.2.2.2.2 hb⟩
theorem LvA.neL (h : LvA B p la lc X da dc ds fl w) : (Value.slice la X.length lc).ownBlock ≠ some p := fun e => by
  obtain ⟨c, fz, hh⟩ := Lib.ownsRow_kind h.2.2.1 p e
  rw [h.1] at hh
  injection hh with hh
  injection hh with _ e2
  exact absurd e2 (by decide)
theorem LvA.neD (h : LvA B p la lc X da dc ds fl w) : (Value.slice da ds.length dc).ownBlock ≠ some p := fun e => by
  obtain ⟨c, fz, hh⟩ := Lib.ownsRow_kind h.2.2.2.2 p e
  rw [h.1] at hh
  injection hh with hh
  injection hh with _ e2
  exact absurd e2 (by decide)
theorem LvA.apart (h : LvA B p la lc X da dc ds fl w) : (Value.slice la X.length lc).ownBlock = none ∨ (Value.slice la X.length lc).ownBlock ≠ (Value.slice da ds.length dc).ownBlock := by
  cases hb : (Value.slice la X.length lc).ownBlock with
  | none => exact .inl rfl
  | some k =>
    refine .inr fun e => ?_
    obtain ⟨c, fz, hh⟩ := Lib.ownsRow_kind h.2.2.1 k hb
    obtain ⟨c', fz', hh'⟩ := Lib.ownsRow_kind h.2.2.2.2 k e.symm
    rw [hh] at hh'
    injection hh' with hh'
    injection hh' with _ e2
    exact absurd e2 (by decide)
theorem set_heap (w : World) (b j : Nat) (v : Value) (k : Nat) (hk : k ≠ b) : (w.setCell ⟨b, j, none⟩ v).heap[k]? = w.heap[k]? := heap_setCell_other _ ⟨b, j, none⟩ k _ hk
end
end Go.Proofs.YtihohcmocejijaaGreat.Bk
