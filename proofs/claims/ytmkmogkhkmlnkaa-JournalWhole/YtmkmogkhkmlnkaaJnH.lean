/-
  unframed: the data of the frames of an age that bytes begin with.
-/
import Derived.Test.YtmkmogkhkmlnkaaJnG
namespace Go.Proofs.Ytmkmogkhkmlnkaa.Dm
open Go.ChangeShapes Go.WideShapes Go.ChangeAt Go.RowKit
/-- data with an age, and their frame -/
def OkA (g : Nat) (d : Fr.Dat) : Prop := Fr.OkD (d.1, txtA g :: d.2)
def frA (g : Nat) (d : Fr.Dat) : List UInt8 := Fr.frD (d.1, txtA g :: d.2)
def flatA (g : Nat) (ds : List Fr.Dat) : List UInt8 := ds.flatMap (frA g)
theorem flatA_snoc (g : Nat) (ds : List Fr.Dat) (d : Fr.Dat) : flatA g (ds ++ [d]) = flatA g ds ++ frA g d := by simp [flatA]
theorem flatA_cons (g : Nat) (ds : List Fr.Dat) (d : Fr.Dat) : flatA g (d :: ds) = frA g d ++ flatA g ds := rfl
/-- bytes that begin with no frame of an age -/
def NoA (g : Nat) (r : List UInt8) : Prop := ∀ d r', OkA g d → r ≠ frA g d ++ r'
def UnIs (l : List UInt8) (g : Nat) (ds : List Fr.Dat) (s : Nat) : Prop := (∀ d ∈ ds, OkA g d) ∧ ∃ r, l = flatA g ds ++ r ∧ s = (flatA g ds).length ∧ NoA g r
theorem noA_of {g : Nat} {r : List UInt8} (h : Fr.NoFrame r) : NoA g r := fun _ r' hd e => h _ r' hd e
theorem noA_other {g : Nat} {d : Fr.Dat} {r r' : List UInt8} (e : r = Fr.frD d ++ r') (h : ∀ t, d.2 ≠ txtA g :: t) : NoA g r := fun d' r2 _ e2 => by
  rw [e] at e2
  have := (Fr.frD_free e2).1
  exact h d'.2 (by rw [this])
/-- all rows of a list of data are of numbers and of texts -/
def Tags (w : World) (ps : List (Value × Value)) : Prop := ∀ p ∈ ps, Fr.TagD w (.agg #[p.1, p.2])
theorem Tags.below {w w' : World} {ps : List (Value × Value)} (h : Tags w ps) (hb : Below w.heap.size w w') : Tags w' ps := fun p hp => (h p hp).below hb
theorem Tags.grown {w w' : World} {ps : List (Value × Value)} {o : Option Nat} (h : Tags w ps) (hg : w.grownBy w' o) (ho : ∀ g, o = some g → ∃ c, w.heap[g]? = some (.cells c 38 (0, 0))) : Tags w' ps := fun p hp => (h p hp).keep fun b c T hc hT => ⟨c, (hg.block b (Array.getElem?_eq_some_iff.1 hc).1 fun e => by
  obtain ⟨c', hc'⟩ := ho b e.symm
  have := heap_T hc hc'
  rcases hT with rfl | rfl
  · exact absurd this (by decide)
  · exact absurd this (by decide)).trans hc⟩
theorem Tags.snoc {w : World} {ps : List (Value × Value)} {x y : Value} (h : Tags w ps) (hx : Fr.TagD w (.agg #[x, y])) : Tags w (ps ++ [(x, y)]) := fun p hp => by
  rcases List.mem_append.1 hp with hp | hp
  · exact h p hp
  · rw [List.mem_singleton.1 hp]; exact hx
/-- behind unframed -/
def UnPost (w : World) (l : List UInt8) (g : Nat) (e : Ending) (w' : World) : Prop := Below w.heap.size w w' ∧ ∃ v ps ds s, e = .returned (.tuple #[v, .int .i64 ((s : Nat) : Int)]) ∧ w'.ownsRow w.heap.size 38 2 v (List.length ds) (Fr.flatP ps) ∧ Fr.Datas v.ownBlock w' ps ds ∧ UnIs l g ds s ∧ Tags w' ps
theorem infoDt2 : (Try.prog.info? 38).map (fun i => (i.zero, i.size, i.bytes)) = some (some (.agg #[.slice none 0 0, .slice none 0 0]), 2, 48) := by kernel_rfl
theorem str_same (x : ByteArray) : (x.toList == x.toList) = true := by simp
set_option maxHeartbeats 4000000 in
set_option maxRecDepth 60000 in
theorem un_a (t0 t2 t3 t4 t5 t6 t7 t9 t11 t12 t13 t14 t15 t16 t17 t18 t19 t20 t21 t22 t23 t24 t25 t26 t27 t28 t29 t30 t31 t32 t33 t34 t35 t36 t37 t38 t39 t40 t41 t42 t43 t44 t45 t46 t47 t48 : Value) (g bx : Nat) (z : Int) (x2 : Option Addr) (m2 k2 : Nat) (w1 : World) (Q : Exit → Act → World → Prop)
    (hx : w1.cell? ⟨bx, 1, none⟩ = some (.slice x2 m2 k2)) (hz : z ≠ 0)
    (hQ : Hid (∀ (u19 u20 u21 u22 u23 u24 u25 u26 u27 u28 u29 u30 u31 u32 u33 u34 : Value) (wC : World), Below w1.heap.size w1 wC → Q .normal ⟨#[t0, .int .i64 (g : Int), t2, t3, t4, t5, t6, t7, .pointer (some ⟨bx, 0, none⟩), t9, .int .i64 z, t11, t12, t13, t14, t15, t16, t17, t18, u19, u20, u21, u22, u23, u24, u25, u26, u27, u28, u29, u30, u31, u32, u33, u34, .bool true, t36, t37, t38, t39, t40, t41, t42, t43, t44, t45, t46, t47, t48], []⟩ wC)) :
    Code.wp Try.prog ((Try.f31.body.bind (regionOf 4)).getD .skip) Q ⟨#[t0, .int .i64 (g : Int), t2, t3, t4, t5, t6, t7, .pointer (some ⟨bx, 0, none⟩), t9, .int .i64 z, t11, t12, t13, t14, t15, t16, t17, t18, t19, t20, t21, t22, t23, t24, t25, t26, t27, t28, t29, t30, t31, t32, t33, t34, t35, t36, t37, t38, t39, t40, t41, t42, t43, t44, t45, t46, t47, t48], []⟩ w1 := by
  have hS : (fun w' => w'.cell? ⟨bx, 1, none⟩ = some (.slice x2 m2 k2) ∧ Below w1.heap.size w1 w') w1.drew := ⟨hx, below_drew w1⟩
  conv => arg 2; whnf
  refine held_start (S := fun w' => w'.cell? ⟨bx, 1, none⟩ = some (.slice x2 m2 k2) ∧ Below w1.heap.size w1 w') mixed9 ?_
  refine held_take (i := 0) (v := .int .i64 z) rfl (by kernel_rfl) (fun _ _ _ h => h) (.inl ⟨rfl, fun w hS => ?_⟩) hS ?_
  · obtain ⟨s1, s2⟩ := hS
    go_simp
  try simp only [Act.put, List.setIfInBounds_toArray, List.set_cons_zero, List.set_cons_succ]
  refine held_take (i := 1) (v := .bool true) rfl (by kernel_rfl) (fun _ _ _ h => h) (.inl ⟨rfl, fun w hS => ?_⟩) hS ?_
  · have hz2 : (z != 0) = true := by simpa using hz
    go_simp
  try simp only [Act.put, List.setIfInBounds_toArray, List.set_cons_zero, List.set_cons_succ]
  refine held_take (i := 2) (v := .bool true) rfl (by kernel_rfl) (fun _ _ _ h => h) (.inl ⟨rfl, fun w hS => ?_⟩) hS ?_
  · obtain ⟨s1, s2⟩ := hS
    go_simp
  try simp only [Act.put, List.setIfInBounds_toArray, List.set_cons_zero, List.set_cons_succ]
  refine held_take (i := 3) (v := undef) rfl (by kernel_rfl) (fun _ _ _ h => h) (.inr ⟨rfl, rfl⟩) hS ?_
  try simp only [Act.put, List.setIfInBounds_toArray, List.set_cons_zero, List.set_cons_succ]
  refine held_take (i := 4) (v := undef) rfl (by kernel_rfl) (fun _ _ _ h => h) (.inr ⟨rfl, rfl⟩) hS ?_
  try simp only [Act.put, List.setIfInBounds_toArray, List.set_cons_zero, List.set_cons_succ]
  refine held_take (i := 5) (v := undef) rfl (by kernel_rfl) (fun _ _ _ h => h) (.inr ⟨rfl, rfl⟩) hS ?_
  try simp only [Act.put, List.setIfInBounds_toArray, List.set_cons_zero, List.set_cons_succ]
  refine held_take (i := 6) (v := undef) rfl (by kernel_rfl) (fun _ _ _ h => h) (.inr ⟨rfl, rfl⟩) hS ?_
  try simp only [Act.put, List.setIfInBounds_toArray, List.set_cons_zero, List.set_cons_succ]
  refine held_take (i := 7) (v := .bool true) rfl (by kernel_rfl) (fun _ _ _ h => h) (.inl ⟨rfl, fun w hS => ?_⟩) hS ?_
  · obtain ⟨s1, s2⟩ := hS
    go_simp
  try simp only [Act.put, List.setIfInBounds_toArray, List.set_cons_zero, List.set_cons_succ]
  refine held_take (i := 8) (v := .bool true) rfl (by kernel_rfl) (fun _ _ _ h => h) (.inl ⟨rfl, fun w hS => ?_⟩) hS ?_
  · obtain ⟨s1, s2⟩ := hS
    go_simp
  try simp only [Act.put, List.setIfInBounds_toArray, List.set_cons_zero, List.set_cons_succ]
  refine held_take (i := 9) (v := undef) rfl (by kernel_rfl) (fun _ _ _ h => h) (.inr ⟨rfl, rfl⟩) hS ?_
  try simp only [Act.put, List.setIfInBounds_toArray, List.set_cons_zero, List.set_cons_succ]
  refine held_take (i := 10) (v := undef) rfl (by kernel_rfl) (fun _ _ _ h => h) (.inr ⟨rfl, rfl⟩) hS ?_
  try simp only [Act.put, List.setIfInBounds_toArray, List.set_cons_zero, List.set_cons_succ]
  refine held_take (i := 11) (v := undef) rfl (by kernel_rfl) (fun _ _ _ h => h) (.inr ⟨rfl, rfl⟩) hS ?_
  try simp only [Act.put, List.setIfInBounds_toArray, List.set_cons_zero, List.set_cons_succ]
  refine held_take (i := 12) (v := undef) rfl (by kernel_rfl) (fun _ _ _ h => h) (.inr ⟨rfl, rfl⟩) hS ?_
  try simp only [Act.put, List.setIfInBounds_toArray, List.set_cons_zero, List.set_cons_succ]
  refine held_take (i := 13) (v := undef) rfl (by kernel_rfl) (fun _ _ _ h => h) (.inr ⟨rfl, rfl⟩) hS ?_
  try simp only [Act.put, List.setIfInBounds_toArray, List.set_cons_zero, List.set_cons_succ]
  refine held_take (i := 14) (v := undef) rfl (by kernel_rfl) (fun _ _ _ h => h) (.inr ⟨rfl, rfl⟩) hS ?_
  try simp only [Act.put, List.setIfInBounds_toArray, List.set_cons_zero, List.set_cons_succ]
  refine held_take (i := 15) (v := undef) rfl (by kernel_rfl) (fun _ _ _ h => h) (.inr ⟨rfl, rfl⟩) hS ?_
  try simp only [Act.put, List.setIfInBounds_toArray, List.set_cons_zero, List.set_cons_succ]
  refine held_take (i := 16) (v := .bool true) rfl (by kernel_rfl) (fun _ _ _ h => h) (.inl ⟨rfl, fun w hS => ?_⟩) hS ?_
  · obtain ⟨s1, s2⟩ := hS
    go_simp
  try simp only [Act.put, List.setIfInBounds_toArray, List.set_cons_zero, List.set_cons_succ]
  refine wpAnyH_done (by kernel_rfl) ?_ _
  refine NoPanic.normal ?_
  exact hQ.out _ _ _ _ _ _ _ _ _ _ _ _ _ _ _ _ _ hS.2
set_option maxHeartbeats 4000000 in
set_option maxRecDepth 60000 in
theorem un_b (t0 t2 t3 t4 t5 t6 t7 t9 t11 t12 t13 t14 t15 t16 t17 t18 t19 t20 t21 t22 t23 t24 t25 t26 t27 t28 t29 t30 t31 t32 t33 t34 t35 t36 t37 t38 t39 t40 t41 t42 t43 t44 t45 t46 t47 t48 : Value) (g bx : Nat) (z : Int) (x2 : Option Addr) (m2 k2 : Nat) (w1 : World) (Q : Exit → Act → World → Prop)
    (hx : w1.cell? ⟨bx, 1, none⟩ = some (.slice x2 m2 k2)) (hz : z = 0) (hm : m2 = 0)
    (hQ : Hid (∀ (u19 u20 u21 u22 u23 u24 u25 u26 u27 u28 u29 u30 u31 u32 u33 u34 : Value) (wC : World), Below w1.heap.size w1 wC → Q .normal ⟨#[t0, .int .i64 (g : Int), t2, t3, t4, t5, t6, t7, .pointer (some ⟨bx, 0, none⟩), t9, .int .i64 z, t11, t12, t13, t14, t15, t16, t17, t18, u19, u20, u21, u22, u23, u24, u25, u26, u27, u28, u29, u30, u31, u32, u33, u34, .bool true, t36, t37, t38, t39, t40, t41, t42, t43, t44, t45, t46, t47, t48], []⟩ wC)) :
    Code.wp Try.prog ((Try.f31.body.bind (regionOf 4)).getD .skip) Q ⟨#[t0, .int .i64 (g : Int), t2, t3, t4, t5, t6, t7, .pointer (some ⟨bx, 0, none⟩), t9, .int .i64 z, t11, t12, t13, t14, t15, t16, t17, t18, t19, t20, t21, t22, t23, t24, t25, t26, t27, t28, t29, t30, t31, t32, t33, t34, t35, t36, t37, t38, t39, t40, t41, t42, t43, t44, t45, t46, t47, t48], []⟩ w1 := by
  subst hz hm
  have hS : (fun w' => w'.cell? ⟨bx, 1, none⟩ = some (.slice x2 0 k2) ∧ Below w1.heap.size w1 w') w1.drew := ⟨hx, below_drew w1⟩
  conv => arg 2; whnf
  refine held_start (S := fun w' => w'.cell? ⟨bx, 1, none⟩ = some (.slice x2 0 k2) ∧ Below w1.heap.size w1 w') mixed9 ?_
  refine held_take (i := 0) (v := .int .i64 0) rfl (by kernel_rfl) (fun _ _ _ h => h) (.inl ⟨rfl, fun w hS => ?_⟩) hS ?_
  · obtain ⟨s1, s2⟩ := hS
    go_simp
  try simp only [Act.put, List.setIfInBounds_toArray, List.set_cons_zero, List.set_cons_succ]
  refine held_take (i := 1) (v := .bool false) rfl (by kernel_rfl) (fun _ _ _ h => h) (.inl ⟨rfl, fun w hS => ?_⟩) hS ?_
  · obtain ⟨s1, s2⟩ := hS
    go_simp
  try simp only [Act.put, List.setIfInBounds_toArray, List.set_cons_zero, List.set_cons_succ]
  refine held_take (i := 2) (v := .bool false) rfl (by kernel_rfl) (fun _ _ _ h => h) (.inl ⟨rfl, fun w hS => ?_⟩) hS ?_
  · obtain ⟨s1, s2⟩ := hS
    go_simp
  try simp only [Act.put, List.setIfInBounds_toArray, List.set_cons_zero, List.set_cons_succ]
  refine held_take (i := 3) (v := .pointer (some ⟨bx, 1, none⟩)) rfl (by kernel_rfl) (fun _ _ _ h => h) (.inl ⟨rfl, fun w hS => ?_⟩) hS ?_
  · obtain ⟨s1, s2⟩ := hS
    go_simp
  try simp only [Act.put, List.setIfInBounds_toArray, List.set_cons_zero, List.set_cons_succ]
  refine held_take (i := 4) (v := .slice x2 0 k2) rfl (by kernel_rfl) (fun _ _ _ h => h) (.inl ⟨rfl, fun w hS => ?_⟩) hS ?_
  · obtain ⟨s1, s2⟩ := hS
    go_simp
  try simp only [Act.put, List.setIfInBounds_toArray, List.set_cons_zero, List.set_cons_succ]
  refine held_take (i := 5) (v := .int .i64 0) rfl (by kernel_rfl) (fun _ _ _ h => h) (.inl ⟨rfl, fun w hS => ?_⟩) hS ?_
  · obtain ⟨s1, s2⟩ := hS
    go_simp
  try simp only [Act.put, List.setIfInBounds_toArray, List.set_cons_zero, List.set_cons_succ]
  refine held_take (i := 6) (v := .bool true) rfl (by kernel_rfl) (fun _ _ _ h => h) (.inl ⟨rfl, fun w hS => ?_⟩) hS ?_
  · obtain ⟨s1, s2⟩ := hS
    go_simp
  try simp only [Act.put, List.setIfInBounds_toArray, List.set_cons_zero, List.set_cons_succ]
  refine held_take (i := 7) (v := .bool true) rfl (by kernel_rfl) (fun _ _ _ h => h) (.inl ⟨rfl, fun w hS => ?_⟩) hS ?_
  · obtain ⟨s1, s2⟩ := hS
    go_simp
  try simp only [Act.put, List.setIfInBounds_toArray, List.set_cons_zero, List.set_cons_succ]
  refine held_take (i := 8) (v := .bool true) rfl (by kernel_rfl) (fun _ _ _ h => h) (.inl ⟨rfl, fun w hS => ?_⟩) hS ?_
  · obtain ⟨s1, s2⟩ := hS
    go_simp
  try simp only [Act.put, List.setIfInBounds_toArray, List.set_cons_zero, List.set_cons_succ]
  refine held_take (i := 9) (v := undef) rfl (by kernel_rfl) (fun _ _ _ h => h) (.inr ⟨rfl, rfl⟩) hS ?_
  try simp only [Act.put, List.setIfInBounds_toArray, List.set_cons_zero, List.set_cons_succ]
  refine held_take (i := 10) (v := undef) rfl (by kernel_rfl) (fun _ _ _ h => h) (.inr ⟨rfl, rfl⟩) hS ?_
  try simp only [Act.put, List.setIfInBounds_toArray, List.set_cons_zero, List.set_cons_succ]
  refine held_take (i := 11) (v := undef) rfl (by kernel_rfl) (fun _ _ _ h => h) (.inr ⟨rfl, rfl⟩) hS ?_
  try simp only [Act.put, List.setIfInBounds_toArray, List.set_cons_zero, List.set_cons_succ]
  refine held_take (i := 12) (v := undef) rfl (by kernel_rfl) (fun _ _ _ h => h) (.inr ⟨rfl, rfl⟩) hS ?_
  try simp only [Act.put, List.setIfInBounds_toArray, List.set_cons_zero, List.set_cons_succ]
  refine held_take (i := 13) (v := undef) rfl (by kernel_rfl) (fun _ _ _ h => h) (.inr ⟨rfl, rfl⟩) hS ?_
  try simp only [Act.put, List.setIfInBounds_toArray, List.set_cons_zero, List.set_cons_succ]
  refine held_take (i := 14) (v := undef) rfl (by kernel_rfl) (fun _ _ _ h => h) (.inr ⟨rfl, rfl⟩) hS ?_
  try simp only [Act.put, List.setIfInBounds_toArray, List.set_cons_zero, List.set_cons_succ]
  refine held_take (i := 15) (v := undef) rfl (by kernel_rfl) (fun _ _ _ h => h) (.inr ⟨rfl, rfl⟩) hS ?_
  try simp only [Act.put, List.setIfInBounds_toArray, List.set_cons_zero, List.set_cons_succ]
  refine held_take (i := 16) (v := .bool true) rfl (by kernel_rfl) (fun _ _ _ h => h) (.inl ⟨rfl, fun w hS => ?_⟩) hS ?_
  · obtain ⟨s1, s2⟩ := hS
    go_simp
  try simp only [Act.put, List.setIfInBounds_toArray, List.set_cons_zero, List.set_cons_succ]
  refine wpAnyH_done (by kernel_rfl) ?_ _
  refine NoPanic.normal ?_
  exact hQ.out _ _ _ _ _ _ _ _ _ _ _ _ _ _ _ _ _ hS.2
set_option maxHeartbeats 4000000 in
set_option maxRecDepth 60000 in
theorem un_c (t0 t2 t3 t4 t5 t6 t7 t9 t11 t12 t13 t14 t15 t16 t17 t18 t19 t20 t21 t22 t23 t24 t25 t26 t27 t28 t29 t30 t31 t32 t33 t34 t35 t36 t37 t38 t39 t40 t41 t42 t43 t44 t45 t46 t47 t48 : Value) (g bx : Nat) (z : Int) (b2 o2 m2 k2 : Nat) (tx x : ByteArray) (q : Bool) (w1 : World) (Q : Exit → Act → World → Prop)
    (hx : w1.cell? ⟨bx, 1, none⟩ = some (.slice (some ⟨b2, o2, none⟩) m2 k2)) (ht : w1.cell? ⟨b2, o2, none⟩ = some (.string tx)) (hz : z = 0) (hm : 0 < m2) (hq : (!(tx.toList == x.toList)) = q)
    (HA : Hid (∀ w', Calls Try.prog 43 #[.int .i64 (g : Int)] w' fun e w'' => e = .returned (.string x) ∧ Below w'.heap.size w' w''))
    (hQ : Hid (∀ (u19 u20 u21 u22 u23 u24 u25 u26 u27 u28 u29 u30 u31 u32 u33 u34 : Value) (wC : World), Below w1.heap.size w1 wC → Q .normal ⟨#[t0, .int .i64 (g : Int), t2, t3, t4, t5, t6, t7, .pointer (some ⟨bx, 0, none⟩), t9, .int .i64 z, t11, t12, t13, t14, t15, t16, t17, t18, u19, u20, u21, u22, u23, u24, u25, u26, u27, u28, u29, u30, u31, u32, u33, u34, .bool q, t36, t37, t38, t39, t40, t41, t42, t43, t44, t45, t46, t47, t48], []⟩ wC)) :
    Code.wp Try.prog ((Try.f31.body.bind (regionOf 4)).getD .skip) Q ⟨#[t0, .int .i64 (g : Int), t2, t3, t4, t5, t6, t7, .pointer (some ⟨bx, 0, none⟩), t9, .int .i64 z, t11, t12, t13, t14, t15, t16, t17, t18, t19, t20, t21, t22, t23, t24, t25, t26, t27, t28, t29, t30, t31, t32, t33, t34, t35, t36, t37, t38, t39, t40, t41, t42, t43, t44, t45, t46, t47, t48], []⟩ w1 := by
  subst hz
  have hbx : bx < w1.heap.size := World.block_lt_of_cell? w1 ⟨bx, 1, none⟩ hx
  have hb2 : b2 < w1.heap.size := World.block_lt_of_cell? w1 ⟨b2, o2, none⟩ ht
  have HS : Hid (∀ w', Below w1.heap.size w1 w' → (w'.cell? ⟨bx, 1, none⟩ = some (.slice (some ⟨b2, o2, none⟩) m2 k2) ∧ w'.cell? ⟨b2, o2, none⟩ = some (.string tx)) ∧ Below w1.heap.size w1 w') := fun w' hb => ⟨⟨(hb.cell (p := ⟨bx, 1, none⟩) hbx).trans hx, (hb.cell (p := ⟨b2, o2, none⟩) hb2).trans ht⟩, hb⟩
  have hS : (fun w' => (w'.cell? ⟨bx, 1, none⟩ = some (.slice (some ⟨b2, o2, none⟩) m2 k2) ∧ w'.cell? ⟨b2, o2, none⟩ = some (.string tx)) ∧ Below w1.heap.size w1 w') w1.drew := HS.out _ (below_drew w1)
  conv => arg 2; whnf
  refine held_start (S := fun w' => (w'.cell? ⟨bx, 1, none⟩ = some (.slice (some ⟨b2, o2, none⟩) m2 k2) ∧ w'.cell? ⟨b2, o2, none⟩ = some (.string tx)) ∧ Below w1.heap.size w1 w') mixed9 ?_
  refine held_take (i := 0) (v := .int .i64 0) rfl (by kernel_rfl) (fun _ _ _ h => h) (.inl ⟨rfl, fun w hS => ?_⟩) hS ?_
  · obtain ⟨⟨s1, s3⟩, s2⟩ := hS
    go_simp
  try simp only [Act.put, List.setIfInBounds_toArray, List.set_cons_zero, List.set_cons_succ]
  refine held_take (i := 1) (v := .bool false) rfl (by kernel_rfl) (fun _ _ _ h => h) (.inl ⟨rfl, fun w hS => ?_⟩) hS ?_
  · obtain ⟨⟨s1, s3⟩, s2⟩ := hS
    go_simp
  try simp only [Act.put, List.setIfInBounds_toArray, List.set_cons_zero, List.set_cons_succ]
  refine held_take (i := 2) (v := .bool false) rfl (by kernel_rfl) (fun _ _ _ h => h) (.inl ⟨rfl, fun w hS => ?_⟩) hS ?_
  · obtain ⟨⟨s1, s3⟩, s2⟩ := hS
    go_simp
  try simp only [Act.put, List.setIfInBounds_toArray, List.set_cons_zero, List.set_cons_succ]
  refine held_take (i := 3) (v := .pointer (some ⟨bx, 1, none⟩)) rfl (by kernel_rfl) (fun _ _ _ h => h) (.inl ⟨rfl, fun w hS => ?_⟩) hS ?_
  · obtain ⟨⟨s1, s3⟩, s2⟩ := hS
    go_simp
  try simp only [Act.put, List.setIfInBounds_toArray, List.set_cons_zero, List.set_cons_succ]
  refine held_take (i := 4) (v := .slice (some ⟨b2, o2, none⟩) m2 k2) rfl (by kernel_rfl) (fun _ _ _ h => h) (.inl ⟨rfl, fun w hS => ?_⟩) hS ?_
  · obtain ⟨⟨s1, s3⟩, s2⟩ := hS
    go_simp
  try simp only [Act.put, List.setIfInBounds_toArray, List.set_cons_zero, List.set_cons_succ]
  refine held_take (i := 5) (v := .int .i64 (m2 : Int)) rfl (by kernel_rfl) (fun _ _ _ h => h) (.inl ⟨rfl, fun w hS => ?_⟩) hS ?_
  · obtain ⟨⟨s1, s3⟩, s2⟩ := hS
    go_simp
  try simp only [Act.put, List.setIfInBounds_toArray, List.set_cons_zero, List.set_cons_succ]
  refine held_take (i := 6) (v := .bool false) rfl (by kernel_rfl) (fun _ _ _ h => h) (.inl ⟨rfl, fun w hS => ?_⟩) hS ?_
  · have hm2 : ((m2 : Int) == 0) = false := by simp; omega
    obtain ⟨⟨s1, s3⟩, s2⟩ := hS
    go_simp
  try simp only [Act.put, List.setIfInBounds_toArray, List.set_cons_zero, List.set_cons_succ]
  refine held_take (i := 7) (v := .bool false) rfl (by kernel_rfl) (fun _ _ _ h => h) (.inl ⟨rfl, fun w hS => ?_⟩) hS ?_
  · obtain ⟨⟨s1, s3⟩, s2⟩ := hS
    go_simp
  try simp only [Act.put, List.setIfInBounds_toArray, List.set_cons_zero, List.set_cons_succ]
  refine held_take (i := 8) (v := .bool false) rfl (by kernel_rfl) (fun _ _ _ h => h) (.inl ⟨rfl, fun w hS => ?_⟩) hS ?_
  · obtain ⟨⟨s1, s3⟩, s2⟩ := hS
    go_simp
  try simp only [Act.put, List.setIfInBounds_toArray, List.set_cons_zero, List.set_cons_succ]
  refine held_take (i := 9) (v := .pointer (some ⟨bx, 1, none⟩)) rfl (by kernel_rfl) (fun _ _ _ h => h) (.inl ⟨rfl, fun w hS => ?_⟩) hS ?_
  · obtain ⟨⟨s1, s3⟩, s2⟩ := hS
    go_simp
  try simp only [Act.put, List.setIfInBounds_toArray, List.set_cons_zero, List.set_cons_succ]
  refine held_take (i := 10) (v := .slice (some ⟨b2, o2, none⟩) m2 k2) rfl (by kernel_rfl) (fun _ _ _ h => h) (.inl ⟨rfl, fun w hS => ?_⟩) hS ?_
  · obtain ⟨⟨s1, s3⟩, s2⟩ := hS
    go_simp
  try simp only [Act.put, List.setIfInBounds_toArray, List.set_cons_zero, List.set_cons_succ]
  refine held_take (i := 11) (v := .pointer (some ⟨b2, o2, none⟩)) rfl (by kernel_rfl) (fun _ _ _ h => h) (.inl ⟨rfl, fun w hS => ?_⟩) hS ?_
  · have hm3 : (0 : Int) < (m2 : Int) := by omega
    obtain ⟨⟨s1, s3⟩, s2⟩ := hS
    go_simp
  try simp only [Act.put, List.setIfInBounds_toArray, List.set_cons_zero, List.set_cons_succ]
  refine held_take (i := 12) (v := .string tx) rfl (by kernel_rfl) (fun _ _ _ h => h) (.inl ⟨rfl, fun w hS => ?_⟩) hS ?_
  · obtain ⟨⟨s1, s3⟩, s2⟩ := hS
    go_simp
  try simp only [Act.put, List.setIfInBounds_toArray, List.set_cons_zero, List.set_cons_succ]
  refine held_take (i := 13) (v := .int .i64 (g : Int)) rfl (by kernel_rfl) (fun _ _ _ h => h) (.inl ⟨rfl, fun w hS => ?_⟩) hS ?_
  · obtain ⟨⟨s1, s3⟩, s2⟩ := hS
    go_simp
  try simp only [Act.put, List.setIfInBounds_toArray, List.set_cons_zero, List.set_cons_succ]
  refine held_one (i := 14) (by kernel_rfl) rfl rfl ?_
  intro K hK
  go_simp
  go_at_call 43
  refine (HA.out _).mono ?_
  rintro e w3 ⟨rfl, hb3⟩
  have hb03 : Below w1.heap.size w1 w3 := below2 (below_drew w1) hb3
  refine hK.out _ _ (HS.out _ hb03) ?_
  have hS9 := HS.out _ hb03
  clear hK hS
  have hS := hS9
  clear hS9
  try simp only [Act.put, List.setIfInBounds_toArray, List.set_cons_zero, List.set_cons_succ]
  refine held_take (i := 15) (v := .bool q) rfl (by kernel_rfl) (fun _ _ _ h => h) (.inl ⟨rfl, fun w hS => ?_⟩) hS ?_
  · obtain ⟨⟨s1, s3⟩, s2⟩ := hS
    go_simp
  try simp only [Act.put, List.setIfInBounds_toArray, List.set_cons_zero, List.set_cons_succ]
  refine held_take (i := 16) (v := .bool q) rfl (by kernel_rfl) (fun _ _ _ h => h) (.inl ⟨rfl, fun w hS => ?_⟩) hS ?_
  · obtain ⟨⟨s1, s3⟩, s2⟩ := hS
    go_simp
  try simp only [Act.put, List.setIfInBounds_toArray, List.set_cons_zero, List.set_cons_succ]
  refine wpAnyH_done (by kernel_rfl) ?_ _
  refine NoPanic.normal ?_
  exact hQ.out _ _ _ _ _ _ _ _ _ _ _ _ _ _ _ _ _ hS.2
set_option maxHeartbeats 8000000 in
set_option maxRecDepth 60000 in
theorem unframed_any (a : Option Addr) (len cap : Nat) (l : List UInt8) (w : World) (h : Fr.RowAt w a len cap (Fr.cellsB l)) (h6 : (len : Int) ≤ 300000) (g : Nat) (hg : (g : Int) ≤ 2147483647) :
    Calls Try.prog 31 #[.slice a len cap, .int .i64 (g : Int)] w fun e w' => UnPost w l g e w' := by
  obtain ⟨i0, hi, hz0, hz1, hz2⟩ := info_parts infoDt2
  have hl : l.length = len := by have := h.1; rwa [Fr.cellsB_length] at this
  have HR : Hid (Fr.RowAt w a len cap (Fr.cellsB l)) := h
  have hcap := h.2.1
  have H6 : Hid ((len : Int) ≤ 300000) := h6
  have HA : Hid (∀ w', Calls Try.prog 43 #[.int .i64 (g : Int)] w' fun e w'' => e = .returned (.string (txtA g)) ∧ Below w'.heap.size w' w'') := ageText_any g hg
  clear h hg
  go_enter Try.func31, Try.ntmps31
  go_wp2
  go_loopw [6, 7] (fun v t wr => ∃ (ps : List (Value × Value)) (ds : List Fr.Dat) (s : Nat), t = .int .i64 (s : Int) ∧ s ≤ len ∧ wr.ownsRow w.heap.size 38 2 v ds.length (Fr.flatP ps) ∧ Fr.Datas v.ownBlock wr ps ds ∧ Below w.heap.size w wr ∧ Tags wr ps ∧ Hid ((∀ d ∈ ds, OkA g d) ∧ l = flatA g ds ++ l.drop s ∧ s = (flatA g ds).length ∧ ds.length ≤ s)) (fun _ t _ => len - (intOf t).toNat)
  case atStart => exact ⟨[], [], 0, rfl, Nat.zero_le _, World.ownsRow_nil _ _ _ _, trivial, Below.refl _ _, fun _ hp => by simp at hp, by simp, by simp [flatA], by simp [flatA], by simp⟩
  case round =>
    obtain ⟨ps, ds, s, rfl, hs, hown, hds, hbel, htgs, hI⟩ := hrel
    obtain ⟨a', hif, hrow⟩ := Fr.slice_from a len cap l s hs
    have HR1 : Hid (Fr.RowAt wr a' (len - s) (cap - s) (Fr.cellsB (l.drop s))) := hrow _ (HR.out.below hbel)
    clear hrow
    go_upto_region 4 with (go_at_call 49; refine (Fr.first2_any _ _ _ _ _ HR1.out).mono ?_; rintro en w1 ⟨hb1, v1, s1, c1, rfl, hF, hfr, htg⟩; have hfr2 := hfr; obtain ⟨x1, m1, k1, x2, m2, k2, rfl, -, -⟩ := hfr)
    have hB1 := below2 hbel hb1
    have hb2 := below_alloc w1 (.cells #[.slice x1 m1 k1, .slice x2 m2 k2] 38)
    have hx2 := heap_alloc_new w1 (.cells #[.slice x1 m1 k1, .slice x2 m2 k2] 38)
    have hsz2 := size_alloc w1 (.cells #[.slice x1 m1 k1, .slice x2 m2 k2] 38)
    obtain ⟨hI1, hI2, hI3, hI4⟩ := hI.out
    have hol : ∀ g, u6.ownBlock = some g → g < wr.heap.size := fun g hg => (hown.lt g hg).2
    have hown1 := own_of hown (fun g hg => hb1.block g (hown.lt g hg).2)
    have htg1 := htgs.below hb1
    have hds1 := hds.map (o' := u6.ownBlock) (w' := w1) fun v d h => h.below hb1
    generalize hw2 : w1.alloc (.cells #[.slice x1 m1 k1, .slice x2 m2 k2] 38) = w2 at *
    have hbx : w1.heap.size < w2.heap.size := by omega
    have HX : Hid (∀ w', Below w2.heap.size w2 w' → w'.cell? ⟨w1.heap.size, 0, none⟩ = some (.slice x1 m1 k1) ∧ w'.cell? ⟨w1.heap.size, 1, none⟩ = some (.slice x2 m2 k2) ∧ w'.frozen? ⟨w1.heap.size, 1, none⟩ = false) := fun w' hb => ⟨(hb.cell (p := ⟨w1.heap.size, 0, none⟩) hbx).trans (by rw [cell_of_heap hx2]; rfl), (hb.cell (p := ⟨w1.heap.size, 1, none⟩) hbx).trans (by rw [cell_of_heap hx2]; rfl), (hb.frozen (p := ⟨w1.heap.size, 1, none⟩) hbx).trans (frozen_of_heap hx2 1)⟩
    clear hw2 hx2 hI hds hown
    have HOUT : Hid (∀ w' : World, Below w2.heap.size w2 w' → NoA g (l.drop s) → UnPost w l g (.returned (.tuple #[u6, .int .i64 (s : Int)])) w') := fun w' hb hno =>
      ⟨below2 hB1 (below2 hb2 hb), u6, ps, ds, s, rfl, own_of hown1 (fun g hg => (below2 hb2 hb).block g (hown1.lt g hg).2), hds1.map fun v d h => h.below (below2 hb2 hb), ⟨hI1, l.drop s, hI2, hI3, hno⟩, htg1.below (below2 hb2 hb)⟩
    rcases Fr.first_iff hF with ⟨rfl, d, r, hd1, hd2, hd3, hd4⟩ | ⟨hc, hno⟩
    · have hdr := hd1
      obtain ⟨y1, p1, q1, y2, p2, q2, ey, -, hr2, -, -⟩ := hdr
      simp at ey
      obtain ⟨⟨rfl, rfl, rfl⟩, rfl, rfl, rfl⟩ := ey
      have hm2 : d.2.length = m2 := by have := hr2.1; rwa [Fr.cellsT_length] at this
      by_cases h0 : m2 = 0
      · have HNO : Hid (NoA g (l.drop s)) := noA_other hd3 fun t e => by rw [e] at hm2; simp at hm2; omega
        subst h0
        clear hF hfr2 hd1 hd2 hd3 hd4 hr2 hm2 hI1 hI2 hI3 hI4 hown1 hds1
        refine un_b _ _ _ _ _ _ _ _ _ _ _ _ _ _ _ _ _ _ _ _ _ _ _ _ _ _ _ _ _ _ _ _ _ _ _ _ _ _ _ _ _ _ _ _ _ _ g w1.heap.size _ x2 0 k2 w2 _ (HX.out w2 (Below.refl _ _)).2.1 rfl rfl ?_
        intro u19 u20 u21 u22 u23 u24 u25 u26 u27 u28 u29 u30 u31 u32 u33 u34 wC hbC
        go_wp2
        go_returns
        exact HOUT.out _ hbC HNO.out
      · obtain ⟨b2, o2, rfl, hcell⟩ := hr2.some (by omega)
        obtain ⟨t0, tr, htr⟩ : ∃ t0 tr, d.2 = t0 :: tr := by
          cases hd2' : d.2 with
          | nil => rw [hd2'] at hm2; simp at hm2; omega
          | cons t0 tr => exact ⟨t0, tr, rfl⟩
        have ht0 : w1.cell? ⟨b2, o2, none⟩ = some (.string t0) := by
          have := hcell 0 (by omega)
          rw [htr, Nat.add_zero] at this
          exact this
        have hb2l : b2 < w1.heap.size := World.block_lt_of_cell? w1 ⟨b2, o2, none⟩ ht0
        by_cases hta : t0 = txtA g
        · have hq : (!(t0.toList == (txtA g).toList)) = false := by rw [hta]; simp
          have hlen : l.length - s = (Fr.frD d).length + r.length := by
            have := congrArg List.length hd3
            rw [List.length_drop, List.length_append] at this
            exact this
          have hpos := Fr.frD_pos d
          have hdA : d = (d.1, txtA g :: tr) := by rw [← hta, ← htr]
          have HNEW : Hid ((∀ e ∈ ds ++ [(d.1, tr)], OkA g e) ∧ l = flatA g (ds ++ [(d.1, tr)]) ++ l.drop (s + s1) ∧ s + s1 = (flatA g (ds ++ [(d.1, tr)])).length ∧ (ds ++ [(d.1, tr)]).length ≤ s + s1 ∧ s + s1 ≤ len ∧ 0 < s1) := by
            have e1 : frA g (d.1, tr) = Fr.frD d := by unfold frA; rw [← hdA]
            refine ⟨?_, ?_, ?_, ?_, by omega, by omega⟩
            · intro e he
              rcases List.mem_append.1 he with he | he
              · exact hI1 e he
              · rw [List.mem_singleton.1 he]
                unfold OkA
                rw [← hdA]
                exact hd2
            · rw [flatA_snoc, List.append_assoc, ← List.drop_drop, hd3, hd4, List.drop_left, e1, ← hd3]; exact hI2
            · rw [flatA_snoc, List.length_append, ← hI3, hd4, e1]
            · rw [List.length_append]; simp; omega
          have hl1 : (1 : Int) ≤ (m2 : Int) := by omega
          have ht2 : w2.cell? ⟨b2, o2, none⟩ = some (.string t0) := (hb2.cell (p := ⟨b2, o2, none⟩) hb2l).trans ht0
          refine un_c _ _ _ _ _ _ _ _ _ _ _ _ _ _ _ _ _ _ _ _ _ _ _ _ _ _ _ _ _ _ _ _ _ _ _ _ _ _ _ _ _ _ _ _ _ _ g w1.heap.size _ b2 o2 m2 k2 t0 (txtA g) false w2 _ (HX.out w2 (Below.refl _ _)).2.1 ht2 rfl (by omega) hq HA ?_
          intro u19 u20 u21 u22 u23 u24 u25 u26 u27 u28 u29 u30 u31 u32 u33 u34 wC hbC
          obtain ⟨e0, e1, e2⟩ := HX.out wC hbC
          go_upto_region 7 with fail
          obtain ⟨y2, hy2⟩ : ∃ y2, (if k2 = 1 then some (⟨b2, o2, none⟩ : Addr) else some ⟨b2, o2 + 1, none⟩) = y2 := ⟨_, rfl⟩
          rw [hy2]
          have hrow2 : Fr.RowAt w1 y2 (m2 - 1) (k2 - 1) (Fr.cellsT tr) := by
            have := hr2.drop 1 (by omega)
            rw [htr] at this
            simp only [Option.map_some, addr_add] at this
            rw [hy2] at this
            exact this
          have hfy : Fr.FreshD wr.heap.size (.agg #[.slice x1 m1 k1, .slice y2 (m2 - 1) (k2 - 1)]) := by
            obtain ⟨b1', n1', c1', b2', n2', c2', e', f1, f2⟩ := hfr2
            simp at e'
            obtain ⟨⟨rfl, rfl, rfl⟩, rfl, rfl, rfl⟩ := e'
            refine Fr.fresh_mk f1 fun x hx => ?_
            rw [← hy2] at hx
            have hbb := f2 _ rfl
            split at hx
            · rw [← Option.some.inj hx]; exact hbb
            · rw [← Option.some.inj hx]; exact hbb
          have hdy : Fr.DataAt w1 (.agg #[.slice x1 m1 k1, .slice y2 (m2 - 1) (k2 - 1)]) d.1 tr := by
            obtain ⟨y1', p1', q1', y2', p2', q2', ey', g1, -, g3, g4⟩ := hd1
            simp at ey'
            obtain ⟨⟨rfl, rfl, rfl⟩, -⟩ := ey'
            exact ⟨_, _, _, _, _, _, rfl, g1, hrow2, g3, fun t ht => g4 t (by rw [htr]; exact List.mem_cons_of_mem _ ht)⟩
          have hty : Fr.TagD w1 (.agg #[.slice x1 m1 k1, .slice y2 (m2 - 1) (k2 - 1)]) := by
            obtain ⟨b1', n1', c1', b2', n2', c2', e', f1, f2⟩ := htg
            simp at e'
            obtain ⟨⟨rfl, rfl, rfl⟩, rfl, rfl, rfl⟩ := e'
            refine ⟨_, _, _, _, _, _, rfl, f1, fun x hx => ?_⟩
            rw [← hy2] at hx
            have hbb := f2 _ rfl
            split at hx
            · rw [← Option.some.inj hx]; exact hbb
            · rw [← Option.some.inj hx]; exact hbb
          have hst := Fr.stab_new (o := u6.ownBlock) (d := (d.1, tr)) hdy hfy hol
          have hbwC : Below w1.heap.size w1 wC := below2 hb2 hbC
          have hb4 : Below w1.heap.size w1 (wC.setCell ⟨w1.heap.size, 1, none⟩ (.slice y2 (m2 - 1) (k2 - 1))) := hbwC.setCell (p := ⟨w1.heap.size, 1, none⟩) (Nat.le_refl _) _
          have z0 : (wC.setCell ⟨w1.heap.size, 1, none⟩ (.slice y2 (m2 - 1) (k2 - 1))).cell? ⟨w1.heap.size, 0, none⟩ = some (.slice x1 m1 k1) := by
            rw [World.cell?_setCell_other _ _ _ _ (by intro h; simpa using congrArg Addr.off h)]
            exact e0
          have z1 : (wC.setCell ⟨w1.heap.size, 1, none⟩ (.slice y2 (m2 - 1) (k2 - 1))).cell? ⟨w1.heap.size, 1, none⟩ = some (.slice y2 (m2 - 1) (k2 - 1)) := World.cell?_setCell_same _ _ _ e1
          generalize wC.setCell ⟨w1.heap.size, 1, none⟩ (.slice y2 (m2 - 1) (k2 - 1)) = w4 at *
          have hown4 := own_of hown1 (fun g hg => hb4.block g (hown1.lt g hg).2)
          have HST : Hid (Fr.DStab u6.ownBlock (w4.alloc (.cells #[.slice x1 m1 k1, .slice y2 (m2 - 1) (k2 - 1)] 38)) (.agg #[.slice x1 m1 k1, .slice y2 (m2 - 1) (k2 - 1)]) (d.1, tr)) := hst.below (below2 hb4 (below_alloc _ _))
          have HDS : Hid (Fr.Datas u6.ownBlock (w4.alloc (.cells #[.slice x1 m1 k1, .slice y2 (m2 - 1) (k2 - 1)] 38)) ps ds) := hds1.map fun v d h => h.below (below2 hb4 (below_alloc _ _))
          have HTA : Hid (Tags (w4.alloc (.cells #[.slice x1 m1 k1, .slice y2 (m2 - 1) (k2 - 1)] 38)) (ps ++ [(.slice x1 m1 k1, .slice y2 (m2 - 1) (k2 - 1))])) := (htg1.below (below2 hb4 (below_alloc _ _))).snoc (hty.below (below2 hb4 (below_alloc _ _)))
          have HOT : Hid (∀ g, u6.ownBlock = some g → ∃ c, (w4.alloc (.cells #[.slice x1 m1 k1, .slice y2 (m2 - 1) (k2 - 1)] 38)).heap[g]? = some (.cells c 38 (0, 0))) := fun g hg => own_T (hown4.alloc _) hg
          have HL : Hid (((ds.length : Nat) : Int) ≤ 300000) := by show _ ≤ _; have := H6.out; omega
          have hsum : (s : Int) + (s1 : Int) ≤ 300000 := by have := HNEW.out.2.2.2.2.1; have := H6.out; omega
          have HB4 : Hid (Below w.heap.size w w4) := below2 hB1 hb4
          have hs4 := HB4.out.size
          have hlt := hown1.lt
          have hs1 := hB1.size
          clear hst hdy hfy hty htg htg1 htgs hrow2 hb4 hbwC hF hfr2 hd1 hd2 hd3 hd4 hr2 hm2 hI1 hI2 hI3 hI4 hds1 hcell htr ht0 hb2l hta hq hlen hdA ht2 hol hy2 hbC e0 e1 e2 HX HOUT
          go_wp2_with (at_builtin; refine wpList_append_own_at _ rfl (.tmp 42) (.tmp 44) 33 rfl w.heap.size 38 i0 (.agg #[.slice none 0 0, .slice none 0 0]) 2 48 Try.underlying33 hi hz0 hz1 hz2 rfl (by decide) _ _ _ rfl (hown4.alloc _) ⟨w4.heap.size, 0, none⟩ 1 1 [.slice x1 m1 k1, .slice y2 (m2 - 1) (k2 - 1)] rfl rfl (Fr.cells_two w4 _ _ _) (Fr.one_two _ _ _ _ _ _) (by have := HL.out; unfold maxLen; omega) (by have := HL.out; omega) (by rw [World.size_alloc]; omega) ?_)
          intro v5 w5 hown5 hgrow5 _ hat
          rw [show w4.heap.size + 1 = (w4.alloc (.cells #[.slice x1 m1 k1, .slice y2 (m2 - 1) (k2 - 1)] 38)).heap.size from (World.size_alloc ..).symm] at hat
          have HD5 : Hid (Fr.Datas v5.ownBlock w5 (ps ++ [(.slice x1 m1 k1, .slice y2 (m2 - 1) (k2 - 1))]) (ds ++ [(d.1, tr)])) := Fr.Datas.snoc (HST.out.grown hgrow5 hat) (HDS.out.map fun v d h => h.grown hgrow5 hat)
          have HT5 : Hid (Tags w5 (ps ++ [(.slice x1 m1 k1, .slice y2 (m2 - 1) (k2 - 1))])) := HTA.out.grown hgrow5 HOT.out
          have HB5 : Hid (Below w.heap.size w w5) := (HB4.out.alloc hs4 _).grown hgrow5 (by rw [World.size_alloc]; omega) (fun k hk => (hlt k hk).1)
          have HO5 : Hid (w5.ownsRow w.heap.size 38 2 v5 (ds.length + 1) (Fr.flatP ps ++ [.slice x1 m1 k1, .slice y2 (m2 - 1) (k2 - 1)])) := hown5
          clear hgrow5 hat HST HDS HTA HOT hown5 hown4 hown1 hlt z0 z1
          go_wp2
          go_roundw
          case rel =>
            obtain ⟨hN1, hN2, hN3, hN4, hN5, hN6⟩ := HNEW.out
            refine ⟨ps ++ [(.slice x1 m1 k1, .slice y2 (m2 - 1) (k2 - 1))], ds ++ [(d.1, tr)], s + s1, by go_num, hN5, ?_, HD5.out, HB5.out, HT5.out, hN1, hN2, hN3, hN4⟩
            rw [List.length_append, Fr.flatP_snoc]
            exact HO5.out
          case measure => have := HNEW.out.2.2.2.2; simp [intOf]; omega
        · have hq : (!(t0.toList == (txtA g).toList)) = true := by rw [Fr.str_ne hta]; rfl
          have HNO : Hid (NoA g (l.drop s)) := noA_other hd3 fun t e => by rw [htr] at e; exact hta (List.cons.inj e).1
          have ht2 : w2.cell? ⟨b2, o2, none⟩ = some (.string t0) := (hb2.cell (p := ⟨b2, o2, none⟩) hb2l).trans ht0
          clear hF hfr2 hd1 hd2 hd3 hd4 hr2 hm2 hI1 hI2 hI3 hI4 hown1 hds1 hcell htr ht0 hb2l hta
          refine un_c _ _ _ _ _ _ _ _ _ _ _ _ _ _ _ _ _ _ _ _ _ _ _ _ _ _ _ _ _ _ _ _ _ _ _ _ _ _ _ _ _ _ _ _ _ _ g w1.heap.size _ b2 o2 m2 k2 t0 (txtA g) true w2 _ (HX.out w2 (Below.refl _ _)).2.1 ht2 rfl (by omega) hq HA ?_
          intro u19 u20 u21 u22 u23 u24 u25 u26 u27 u28 u29 u30 u31 u32 u33 u34 wC hbC
          go_wp2
          go_returns
          exact HOUT.out _ hbC HNO.out
    · have HNO : Hid (NoA g (l.drop s)) := noA_of hno
      clear hF hfr2 hI1 hI2 hI3 hI4 hown1 hds1 hno
      refine un_a _ _ _ _ _ _ _ _ _ _ _ _ _ _ _ _ _ _ _ _ _ _ _ _ _ _ _ _ _ _ _ _ _ _ _ _ _ _ _ _ _ _ _ _ _ _ g w1.heap.size _ x2 m2 k2 w2 _ (HX.out w2 (Below.refl _ _)).2.1 (by omega) ?_
      intro u19 u20 u21 u22 u23 u24 u25 u26 u27 u28 u29 u30 u31 u32 u33 u34 wC hbC
      go_wp2
      go_returns
      exact HOUT.out _ hbC HNO.out
end Go.Proofs.Ytmkmogkhkmlnkaa.Dm
