/-
  Regions that draw, by hand; region 9 of sums.
-/
import Derived.Test.YtcdlkdbnlomghaaDoorBkE
import Derived.Laws.OwnMore
import Derived.StillTail
namespace Go.Proofs.YtcdlkdbnlomghaaDoor.Bk
open Go.ChangeShapes Go.WideShapes Go.ChangeAt Go.RowKit
theorem held_one {P : Program} {ops : Array Oper} {Q : Exit → Act → World → Prop} {md : Region.Mode} {S : World → Prop} {i : Nat} {o : Oper} {fuel : Nat} {listed : Array Bool} {a : Act} {w : World} (hr : Region.ready md ops listed = [i]) (ho' : ops.toList[i]? = some o) (hg : Region.wanted o (yielded ops a.tmps) = true)
    (h : ∀ K : Act → World → Prop, Hid (∀ a' w', S w' → wpAnyH P md ops Q S fuel (listed.setIfInBounds i true) a' w' → K a' w') → o.wp P a w K Q) : wpAnyH P md ops Q S (fuel + 1) listed a w := by
  have ho : ops[i]? = some o := by simpa using ho'
  refine wpAnyH_all hr (by simp) (fun j hj => ?_)
  obtain rfl : j = i := by simpa using hj
  unfold wpOp
  simp only [ho]
  rw [if_pos hg]
  exact .inl (h _ (fun _ _ h1 h2 => ⟨h1, h2⟩))
theorem held_take {P : Program} {ops : Array Oper} {Q : Exit → Act → World → Prop} {md : Region.Mode} {S : World → Prop} {i : Nat} {oi : Oper} {v : Value} {fuel : Nat} {listed : Array Bool} {a : Act} {w : World} (hi : ops.toList[i]? = some oi)
    (hB : (Region.noSelect ops && Region.free md ops listed i && (Region.ready md ops listed).contains i) = true)
    (hQ : ∀ c a w, Q (.panic c) (a.put oi.dst v) w → Q (.panic c) a w) (hy : YieldsIf P ops S oi v a) (hS : S w)
    (h : wpAnyH P md ops Q S fuel (listed.setIfInBounds i true) (a.put oi.dst v) w) : wpAnyH P md ops Q S (fuel + 1) listed a w := by
  simp only [Bool.and_eq_true] at hB
  exact wpAnyH_take (by simpa using hi) hB.1.1 hB.1.2 hB.2 hQ hy hS h
theorem held_start {P : Program} {ops : Array Oper} {Q : Exit → Act → World → Prop} {S : World → Prop} {id : Nat} {a : Act} {w : World} (hm : P.follows .mixedOrders = true) (h : wpAnyH P .any ops (NoPanic Q) S ops.size (Array.replicate ops.size false) a w.drew) : (Code.region id ops true).wp P Q a w :=
  wp_region_noPanic (wp_region_held hm h)
/-- a region of a body, by its number -/
def regionOf (n : Nat) : Code → Option Code
  | .region id ops d => if id = n then some (.region id ops d) else none
  | .loop c => regionOf n c
  | .seq a b => match regionOf n a with
    | some c => some c
    | none => regionOf n b
  | .block _ c => regionOf n c
  | .scope c => regionOf n c
  | .cond _ a b => match regionOf n a with
    | some c => some c
    | none => regionOf n b
  | _ => none
set_option maxHeartbeats 4000000 in
set_option maxRecDepth 60000 in
theorem sum_put (t0 t1 t2 t3 t6 t8 t9 t10 t11 t12 t13 t14 t15 t16 t17 t18 t19 t20 t21 t22 t23 t24 t25 t26 t27 t28 t29 t30 t31 t32 t33 t34 t35 t36 t37 t38 t39 t40 t41 t42 t43 : Value) (S X : Nat) (l1 l2 o1 o2 p1 p2 s1 s2 : Int) (w1 : World) (Q : Exit → Act → World → Prop)
    (h4 : SmBox w1 S l1 l2) (h5 : SmBox w1 (S + 1) p1 p2) (h7 : SmBox w1 X o1 o2) (n1 : X ≠ S) (n2 : X ≠ S + 1) (e1 : wrap64 (l1 + o1) = s1) (e2 : wrap64 (l2 + o2) = s2)
    (hQ : Hid (∀ (u34 u35 u36 u37 : Value) (w4 : World), Below w1.heap.size w1 w4 → Q .normal ⟨#[t0, t1, t2, t3, .pointer (some ⟨S, 0, none⟩), .pointer (some ⟨S + 1, 0, none⟩), t6, .pointer (some ⟨X, 0, none⟩), t8, t9, t10, t11, t12, t13, t14, t15, t16, t17, t18, t19, t20, t21, t22, t23, t24, t25, t26, t27, t28, t29, t30, t31, t32, t33, u34, u35, u36, u37, t38, t39, t40, t41, t42, t43], []⟩ (set2 (set2 w4 S (.int .i64 s1) (.int .i64 s2)) (S + 1) (.int .i64 o1) (.int .i64 o2)))) :
    Code.wp Tryd.prog ((Tryd.f59.body.bind (regionOf 9)).getD .skip) Q ⟨#[t0, t1, t2, t3, .pointer (some ⟨S, 0, none⟩), .pointer (some ⟨S + 1, 0, none⟩), t6, .pointer (some ⟨X, 0, none⟩), t8, t9, t10, t11, t12, t13, t14, t15, t16, t17, t18, t19, t20, t21, t22, t23, t24, t25, t26, t27, t28, t29, t30, t31, t32, t33, t34, t35, t36, t37, t38, t39, t40, t41, t42, t43], []⟩ w1 := by
  have hS : (fun w' => SmBox w' X o1 o2) w1.drew := h7.below (below_drew _)
  have H4 := Hid.mk9 (h4.below (below_drew _))
  have H5 := Hid.mk9 (h5.below (below_drew _))
  have H7 := Hid.mk9 (h7.below (below_drew _))
  have E1 := Hid.mk9 e1
  have E2 := Hid.mk9 e2
  have BD := Hid.mk9 (below_drew w1)
  clear h4 h5 h7 e1 e2
  conv => arg 2; whnf
  refine held_start (S := (fun w' => SmBox w' X o1 o2)) mixed5 ?_
  refine held_take (i := 1) (v := .agg #[.int .i64 o1, .int .i64 o2]) rfl (by kernel_rfl) (fun _ _ _ h => h) (.inl ⟨rfl, fun w hS => ?_⟩) hS ?_
  · have q1 := hS.c0
    have q2 := hS.c1
    clear hS
    go_simp
  simp only [Act.put, List.setIfInBounds_toArray, List.set_cons_zero, List.set_cons_succ]
  refine held_take (i := 3) (v := .agg #[.int .i64 o1, .int .i64 o2]) rfl (by kernel_rfl) (fun _ _ _ h => h) (.inl ⟨rfl, fun w hS => ?_⟩) hS ?_
  · have q1 := hS.c0
    have q2 := hS.c1
    clear hS
    go_simp
  simp only [Act.put, List.setIfInBounds_toArray, List.set_cons_zero, List.set_cons_succ]
  generalize w1.drew = w2 at *
  refine held_one (i := 0) (by kernel_rfl) rfl rfl ?_
  intro K hK
  have r1 := H4.out.c0
  have r2 := H4.out.c1
  go_simp
  refine hK.out _ _ hS ?_
  clear hK r1 r2
  refine held_one (i := 2) (by kernel_rfl) rfl rfl ?_
  intro K hK
  go_simp
  go_at_call 78
  refine (plus_to _ _ _ _ s1 s2 _ E1.out E2.out).mono ?_
  rintro en w3 ⟨rfl, hg3⟩
  have b3 := grown_below hg3
  refine hK.out _ _ (H7.out.below b3) ?_
  clear hK hS hg3
  have H4' := Hid.mk9 (H4.out.below b3)
  have H5' := Hid.mk9 (H5.out.below b3)
  have H7' := Hid.mk9 (H7.out.below b3)
  have B4 := Hid.mk9 (below2 BD.out b3)
  clear b3 H4 H5 H7 BD
  refine held_one (i := 4) (by kernel_rfl) rfl rfl ?_
  intro K hK
  have r1 := H4'.out.c0
  have r2 := H4'.out.c1
  have r3 := H4'.out.f0
  have r4 := H4'.out.f1
  go_simp
  refine hK.out _ _ (H7'.out.else (b := S) (.int .i64 s1) (.int .i64 s2) n1) ?_
  clear hK r1 r2 r3 r4
  have hw : (w3.setCell ⟨S, 0, none⟩ (.int .i64 s1)).setCell ⟨S, 1, none⟩ (.int .i64 s2) = set2 w3 S (.int .i64 s1) (.int .i64 s2) := rfl
  rw [hw]
  have H5'' := Hid.mk9 (H5'.out.else (b := S) (.int .i64 s1) (.int .i64 s2) (by omega))
  have H7'' := Hid.mk9 (H7'.out.else (b := S) (.int .i64 s1) (.int .i64 s2) n1)
  have hQ' : Hid (∀ (u34 u35 u36 u37 : Value), Q .normal ⟨#[t0, t1, t2, t3, .pointer (some ⟨S, 0, none⟩), .pointer (some ⟨S + 1, 0, none⟩), t6, .pointer (some ⟨X, 0, none⟩), t8, t9, t10, t11, t12, t13, t14, t15, t16, t17, t18, t19, t20, t21, t22, t23, t24, t25, t26, t27, t28, t29, t30, t31, t32, t33, u34, u35, u36, u37, t38, t39, t40, t41, t42, t43], []⟩ (set2 (set2 w3 S (.int .i64 s1) (.int .i64 s2)) (S + 1) (.int .i64 o1) (.int .i64 o2))) := fun u34 u35 u36 u37 => hQ.out u34 u35 u36 u37 w3 B4.out
  clear hw hQ H4' H5' H7'
  generalize set2 w3 S (.int .i64 s1) (.int .i64 s2) = w5 at *
  refine held_one (i := 5) (by kernel_rfl) rfl rfl ?_
  intro K hK
  have r1 := H5''.out.c0
  have r2 := H5''.out.c1
  have r3 := H5''.out.f0
  have r4 := H5''.out.f1
  go_simp
  refine hK.out _ _ (H7''.out.else (b := S + 1) (.int .i64 o1) (.int .i64 o2) n2) ?_
  clear hK
  refine wpAnyH_done (by kernel_rfl) ?_ _
  refine NoPanic.normal ?_
  exact hQ'.out _ _ _ _
end Go.Proofs.YtcdlkdbnlomghaaDoor.Bk
