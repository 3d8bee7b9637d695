/-
  clone's three regions that draw.
-/
import Derived.Test.YtcncbjknfcjnmaaGreatPr25
namespace Go.Proofs.YtcncbjknfcjnmaaGreat.Tp
open Go.ChangeShapes Go.WideShapes Go.ChangeAt Go.RowKit
set_option maxHeartbeats 4000000 in
set_option maxRecDepth 60000 in
theorem clone_t (t0 t2 t5 t6 t7 t8 t9 t10 t11 t12 t13 t14 t15 t16 t17 t18 t19 t20 t21 t22 t23 t24 t25 t26 t27 t28 t29 t30 t31 t32 t33 t34 t35 t36 t37 t38 t39 t40 t41 t42 t43 t44 t45 t46 t47 t48 t49 t50 t51 t52 t53 t54 t55 t56 t57 t58 t59 t60 t61 t62 t63 t64 t65 t66 t67 t68 t69 t70 t71 t72 t73 t74 t75 t76 : Value) (pm x g n cg k : Nat) (a : Option Addr) (len cap : Nat) (l : List Int) (w1 : World) (Q : Exit -> Act -> World -> Prop) (hk : (k : Int) < (n : Int))
  (hF : w1.cell? ⟨pm,5,none⟩ = some (.slice (some ⟨g,0,none⟩) n cg) /\ w1.cell? ⟨x,1,none⟩ = some (.slice a len cap) /\ w1.cell? ⟨g,k * 2 + 1,none⟩ = some (.slice a len cap) /\ w1.frozen? ⟨g,k * 2 + 1,none⟩ = false)
  (hC : Hid (∀ W,Below w1.heap.size w1 W -> Calls Tryz.prog 61 #[.slice a len cap] W fun e w' => ∃ a' c',e = .returned (.slice a' len c') /\ w'.ownsRow W.heap.size 3 1 (.slice a' len c') len (intCells l) /\ Below W.heap.size W w'))
  (hQ : Hid (∀ (u25 u26 u27 u28 u29 u30 u31 u32 : Value) (a' : Option Addr) (c' : Nat) (w3 : World),(∃ W,Below w1.heap.size w1 W /\ w3.ownsRow W.heap.size 3 1 (.slice a' len c') len (intCells l)) -> Below w1.heap.size w1 w3 -> Q .normal ⟨#[t0,.pointer (some ⟨pm,0,none⟩),t2,.int .i64 (k : Int),.pointer (some ⟨x,0,none⟩),t5,t6,t7,t8,t9,t10,t11,t12,t13,t14,t15,t16,t17,t18,t19,t20,t21,t22,t23,t24,u25,u26,u27,u28,u29,u30,u31,u32,t33,t34,t35,t36,t37,t38,t39,t40,t41,t42,t43,t44,t45,t46,t47,t48,t49,t50,t51,t52,t53,t54,t55,t56,t57,t58,t59,t60,t61,t62,t63,t64,t65,t66,t67,t68,t69,t70,t71,t72,t73,t74,t75,t76],[]⟩ (w3.setCell ⟨g,k * 2 + 1,none⟩ (.slice a' len c')))) :
  Code.wp Tryz.prog ((Tryz.f36.body.bind (regionOf 6)).getD .skip) Q ⟨#[t0,.pointer (some ⟨pm,0,none⟩),t2,.int .i64 (k : Int),.pointer (some ⟨x,0,none⟩),t5,t6,t7,t8,t9,t10,t11,t12,t13,t14,t15,t16,t17,t18,t19,t20,t21,t22,t23,t24,t25,t26,t27,t28,t29,t30,t31,t32,t33,t34,t35,t36,t37,t38,t39,t40,t41,t42,t43,t44,t45,t46,t47,t48,t49,t50,t51,t52,t53,t54,t55,t56,t57,t58,t59,t60,t61,t62,t63,t64,t65,t66,t67,t68,t69,t70,t71,t72,t73,t74,t75,t76],[]⟩ w1 := by
 have HF : Hid (∀ w',Below w1.heap.size w1 w' -> w'.cell? ⟨pm,5,none⟩ = some (.slice (some ⟨g,0,none⟩) n cg) /\ w'.cell? ⟨x,1,none⟩ = some (.slice a len cap) /\ w'.cell? ⟨g,k * 2 + 1,none⟩ = some (.slice a len cap) /\ w'.frozen? ⟨g,k * 2 + 1,none⟩ = false) := fun w' hw => by
  obtain ⟨h1,h2,h3,h4⟩ := hF
  exact ⟨(hw.cell (p := ⟨pm,5,none⟩) (World.block_lt_of_cell? w1 ⟨pm,5,none⟩ h1)).trans h1,(hw.cell (p := ⟨x,1,none⟩) (World.block_lt_of_cell? w1 ⟨x,1,none⟩ h2)).trans h2,(hw.cell (p := ⟨g,k * 2 + 1,none⟩) (World.block_lt_of_cell? w1 ⟨g,k * 2 + 1,none⟩ h3)).trans h3,(hw.frozen (p := ⟨g,k * 2 + 1,none⟩) (World.block_lt_of_cell? w1 ⟨g,k * 2 + 1,none⟩ h3)).trans h4⟩
 clear hF
 have hS := below_drew w1
 conv => arg 2; whnf
 refine wp_region_but (S := fun w' => Below w1.heap.size w1 w') (n := 8) mixed5 ?_
 refine but_take (i := 0) (v := .pointer (some ⟨pm,5,none⟩)) rfl (by kernel_rfl) (fun _ _ _ h => h) (.inl ⟨rfl,fun w hS => ?_⟩) hS ?_
 ·obtain ⟨s1,s2,s3,s4⟩ := HF.out _ hS
  go_simp
 simp only [Act.put,List.setIfInBounds_toArray,List.set_cons_zero,List.set_cons_succ]
 refine but_take (i := 1) (v := .slice (some ⟨g,0,none⟩) n cg) rfl (by kernel_rfl) (fun _ _ _ h => h) (.inl ⟨rfl,fun w hS => ?_⟩) hS ?_
 ·obtain ⟨s1,s2,s3,s4⟩ := HF.out _ hS
  go_simp
 simp only [Act.put,List.setIfInBounds_toArray,List.set_cons_zero,List.set_cons_succ]
 refine but_take (i := 2) (v := .int .i64 (k : Int)) rfl (by kernel_rfl) (fun _ _ _ h => h) (.inl ⟨rfl,fun w hS => ?_⟩) hS ?_
 ·obtain ⟨s1,s2,s3,s4⟩ := HF.out _ hS
  go_simp
 simp only [Act.put,List.setIfInBounds_toArray,List.set_cons_zero,List.set_cons_succ]
 refine but_take (i := 3) (v := .pointer (some ⟨x,1,none⟩)) rfl (by kernel_rfl) (fun _ _ _ h => h) (.inl ⟨rfl,fun w hS => ?_⟩) hS ?_
 ·obtain ⟨s1,s2,s3,s4⟩ := HF.out _ hS
  go_simp
 simp only [Act.put,List.setIfInBounds_toArray,List.set_cons_zero,List.set_cons_succ]
 refine but_take (i := 4) (v := .slice a len cap) rfl (by kernel_rfl) (fun _ _ _ h => h) (.inl ⟨rfl,fun w hS => ?_⟩) hS ?_
 ·obtain ⟨s1,s2,s3,s4⟩ := HF.out _ hS
  go_simp
 simp only [Act.put,List.setIfInBounds_toArray,List.set_cons_zero,List.set_cons_succ]
 refine but_one (i := 5) (by kernel_rfl) rfl rfl ?_
 intro K hK
 go_simp
 go_at_call 61
 refine (hC.out _ hS).mono ?_
 rintro en w3 ⟨a',c',rfl,hown3,hb3⟩
 have hS3 : Below w1.heap.size w1 w3 := below2 (below_drew w1) hb3
 have HO : Hid (∃ W,Below w1.heap.size w1 W /\ w3.ownsRow W.heap.size 3 1 (.slice a' len c') len (intCells l)) := ⟨_,below_drew w1,hown3⟩
 refine hK.out _ _ (fun _ => hS3) ?_
 clear hK hS hown3
 have hS := hS3
 try simp only [Act.put,List.setIfInBounds_toArray,List.set_cons_zero,List.set_cons_succ]
 refine but_take (i := 6) (v := .pointer (some ⟨g,k * 2,none⟩)) rfl (by kernel_rfl) (fun _ _ _ h => h) (.inl ⟨rfl,fun w hS => ?_⟩) hS ?_
 ·obtain ⟨s1,s2,s3,s4⟩ := HF.out _ hS
  go_simp
 simp only [Act.put,List.setIfInBounds_toArray,List.set_cons_zero,List.set_cons_succ]
 refine but_take (i := 7) (v := .pointer (some ⟨g,k * 2 + 1,none⟩)) rfl (by kernel_rfl) (fun _ _ _ h => h) (.inl ⟨rfl,fun w hS => ?_⟩) hS ?_
 ·obtain ⟨s1,s2,s3,s4⟩ := HF.out _ hS
  go_simp
 simp only [Act.put,List.setIfInBounds_toArray,List.set_cons_zero,List.set_cons_succ]
 obtain ⟨s1,s2,s3,s4⟩ := HF.out _ hS
 refine but_one (i := 8) (by kernel_rfl) rfl rfl ?_
 intro K hK
 go_simp
 refine hK.out _ _ (fun h => absurd rfl h) ?_
 clear hK
 try simp only [Act.put,List.setIfInBounds_toArray,List.set_cons_zero,List.set_cons_succ]
 refine AnyBut.done (by kernel_rfl) ?_ _
 refine NoPanic.normal ?_
 exact hQ.out _ _ _ _ _ _ _ _ a' c' w3 HO.out hS3
set_option maxHeartbeats 4000000 in
set_option maxRecDepth 60000 in
theorem clone_r (t0 t2 t3 t4 t7 t8 t9 t10 t11 t12 t13 t14 t15 t16 t17 t18 t19 t20 t21 t22 t23 t24 t25 t26 t27 t28 t29 t30 t31 t32 t33 t34 t35 t36 t37 t38 t39 t40 t41 t42 t43 t44 t45 t46 t47 t48 t49 t50 t51 t52 t53 t54 t55 t56 t57 t58 t59 t60 t61 t62 t63 t64 t65 t66 t67 t68 t69 t70 t71 t72 t73 t74 t75 t76 : Value) (pm x g n cg k : Nat) (a : Option Addr) (len cap : Nat) (xs : List Value) (w1 : World) (Q : Exit -> Act -> World -> Prop) (hk : (k : Int) < (n : Int))
  (hF : w1.cell? ⟨pm,6,none⟩ = some (.slice (some ⟨g,0,none⟩) n cg) /\ w1.cell? ⟨x,1,none⟩ = some (.slice a len cap) /\ w1.cell? ⟨g,k * 2 + 1,none⟩ = some (.slice a len cap) /\ w1.frozen? ⟨g,k * 2 + 1,none⟩ = false)
  (hC : Hid (∀ W,Below w1.heap.size w1 W -> Calls Tryz.prog 63 #[.slice a len cap] W fun e w' => ∃ a' c',e = .returned (.slice a' len c') /\ w'.ownsRow W.heap.size 55 2 (.slice a' len c') len xs /\ Below W.heap.size W w'))
  (hQ : Hid (∀ (u46 u47 u48 u49 u50 u51 u52 u53 : Value) (a' : Option Addr) (c' : Nat) (w3 : World),(∃ W,Below w1.heap.size w1 W /\ w3.ownsRow W.heap.size 55 2 (.slice a' len c') len xs) -> Below w1.heap.size w1 w3 -> Q .normal ⟨#[t0,.pointer (some ⟨pm,0,none⟩),t2,t3,t4,.int .i64 (k : Int),.pointer (some ⟨x,0,none⟩),t7,t8,t9,t10,t11,t12,t13,t14,t15,t16,t17,t18,t19,t20,t21,t22,t23,t24,t25,t26,t27,t28,t29,t30,t31,t32,t33,t34,t35,t36,t37,t38,t39,t40,t41,t42,t43,t44,t45,u46,u47,u48,u49,u50,u51,u52,u53,t54,t55,t56,t57,t58,t59,t60,t61,t62,t63,t64,t65,t66,t67,t68,t69,t70,t71,t72,t73,t74,t75,t76],[]⟩ (w3.setCell ⟨g,k * 2 + 1,none⟩ (.slice a' len c')))) :
  Code.wp Tryz.prog ((Tryz.f36.body.bind (regionOf 12)).getD .skip) Q ⟨#[t0,.pointer (some ⟨pm,0,none⟩),t2,t3,t4,.int .i64 (k : Int),.pointer (some ⟨x,0,none⟩),t7,t8,t9,t10,t11,t12,t13,t14,t15,t16,t17,t18,t19,t20,t21,t22,t23,t24,t25,t26,t27,t28,t29,t30,t31,t32,t33,t34,t35,t36,t37,t38,t39,t40,t41,t42,t43,t44,t45,t46,t47,t48,t49,t50,t51,t52,t53,t54,t55,t56,t57,t58,t59,t60,t61,t62,t63,t64,t65,t66,t67,t68,t69,t70,t71,t72,t73,t74,t75,t76],[]⟩ w1 := by
 have HF : Hid (∀ w',Below w1.heap.size w1 w' -> w'.cell? ⟨pm,6,none⟩ = some (.slice (some ⟨g,0,none⟩) n cg) /\ w'.cell? ⟨x,1,none⟩ = some (.slice a len cap) /\ w'.cell? ⟨g,k * 2 + 1,none⟩ = some (.slice a len cap) /\ w'.frozen? ⟨g,k * 2 + 1,none⟩ = false) := fun w' hw => by
  obtain ⟨h1,h2,h3,h4⟩ := hF
  exact ⟨(hw.cell (p := ⟨pm,6,none⟩) (World.block_lt_of_cell? w1 ⟨pm,6,none⟩ h1)).trans h1,(hw.cell (p := ⟨x,1,none⟩) (World.block_lt_of_cell? w1 ⟨x,1,none⟩ h2)).trans h2,(hw.cell (p := ⟨g,k * 2 + 1,none⟩) (World.block_lt_of_cell? w1 ⟨g,k * 2 + 1,none⟩ h3)).trans h3,(hw.frozen (p := ⟨g,k * 2 + 1,none⟩) (World.block_lt_of_cell? w1 ⟨g,k * 2 + 1,none⟩ h3)).trans h4⟩
 clear hF
 have hS := below_drew w1
 conv => arg 2; whnf
 refine wp_region_but (S := fun w' => Below w1.heap.size w1 w') (n := 8) mixed5 ?_
 refine but_take (i := 0) (v := .pointer (some ⟨pm,6,none⟩)) rfl (by kernel_rfl) (fun _ _ _ h => h) (.inl ⟨rfl,fun w hS => ?_⟩) hS ?_
 ·obtain ⟨s1,s2,s3,s4⟩ := HF.out _ hS
  go_simp
 simp only [Act.put,List.setIfInBounds_toArray,List.set_cons_zero,List.set_cons_succ]
 refine but_take (i := 1) (v := .slice (some ⟨g,0,none⟩) n cg) rfl (by kernel_rfl) (fun _ _ _ h => h) (.inl ⟨rfl,fun w hS => ?_⟩) hS ?_
 ·obtain ⟨s1,s2,s3,s4⟩ := HF.out _ hS
  go_simp
 simp only [Act.put,List.setIfInBounds_toArray,List.set_cons_zero,List.set_cons_succ]
 refine but_take (i := 2) (v := .int .i64 (k : Int)) rfl (by kernel_rfl) (fun _ _ _ h => h) (.inl ⟨rfl,fun w hS => ?_⟩) hS ?_
 ·obtain ⟨s1,s2,s3,s4⟩ := HF.out _ hS
  go_simp
 simp only [Act.put,List.setIfInBounds_toArray,List.set_cons_zero,List.set_cons_succ]
 refine but_take (i := 3) (v := .pointer (some ⟨x,1,none⟩)) rfl (by kernel_rfl) (fun _ _ _ h => h) (.inl ⟨rfl,fun w hS => ?_⟩) hS ?_
 ·obtain ⟨s1,s2,s3,s4⟩ := HF.out _ hS
  go_simp
 simp only [Act.put,List.setIfInBounds_toArray,List.set_cons_zero,List.set_cons_succ]
 refine but_take (i := 4) (v := .slice a len cap) rfl (by kernel_rfl) (fun _ _ _ h => h) (.inl ⟨rfl,fun w hS => ?_⟩) hS ?_
 ·obtain ⟨s1,s2,s3,s4⟩ := HF.out _ hS
  go_simp
 simp only [Act.put,List.setIfInBounds_toArray,List.set_cons_zero,List.set_cons_succ]
 refine but_one (i := 5) (by kernel_rfl) rfl rfl ?_
 intro K hK
 go_simp
 go_at_call 63
 refine (hC.out _ hS).mono ?_
 rintro en w3 ⟨a',c',rfl,hown3,hb3⟩
 have hS3 : Below w1.heap.size w1 w3 := below2 (below_drew w1) hb3
 have HO : Hid (∃ W,Below w1.heap.size w1 W /\ w3.ownsRow W.heap.size 55 2 (.slice a' len c') len xs) := ⟨_,below_drew w1,hown3⟩
 refine hK.out _ _ (fun _ => hS3) ?_
 clear hK hS hown3
 have hS := hS3
 try simp only [Act.put,List.setIfInBounds_toArray,List.set_cons_zero,List.set_cons_succ]
 refine but_take (i := 6) (v := .pointer (some ⟨g,k * 2,none⟩)) rfl (by kernel_rfl) (fun _ _ _ h => h) (.inl ⟨rfl,fun w hS => ?_⟩) hS ?_
 ·obtain ⟨s1,s2,s3,s4⟩ := HF.out _ hS
  go_simp
 simp only [Act.put,List.setIfInBounds_toArray,List.set_cons_zero,List.set_cons_succ]
 refine but_take (i := 7) (v := .pointer (some ⟨g,k * 2 + 1,none⟩)) rfl (by kernel_rfl) (fun _ _ _ h => h) (.inl ⟨rfl,fun w hS => ?_⟩) hS ?_
 ·obtain ⟨s1,s2,s3,s4⟩ := HF.out _ hS
  go_simp
 simp only [Act.put,List.setIfInBounds_toArray,List.set_cons_zero,List.set_cons_succ]
 obtain ⟨s1,s2,s3,s4⟩ := HF.out _ hS
 refine but_one (i := 8) (by kernel_rfl) rfl rfl ?_
 intro K hK
 go_simp
 refine hK.out _ _ (fun h => absurd rfl h) ?_
 clear hK
 try simp only [Act.put,List.setIfInBounds_toArray,List.set_cons_zero,List.set_cons_succ]
 refine AnyBut.done (by kernel_rfl) ?_ _
 refine NoPanic.normal ?_
 exact hQ.out _ _ _ _ _ _ _ _ a' c' w3 HO.out hS3
set_option maxHeartbeats 4000000 in
set_option maxRecDepth 60000 in
theorem clone_s (t0 t2 t3 t4 t6 t9 t10 t11 t12 t13 t14 t15 t16 t17 t18 t19 t20 t21 t22 t23 t24 t25 t26 t27 t28 t29 t30 t31 t32 t33 t34 t35 t36 t37 t38 t39 t40 t41 t42 t43 t44 t45 t46 t47 t48 t49 t50 t51 t52 t53 t54 t55 t56 t57 t58 t59 t60 t61 t62 t63 t64 t65 t66 t67 t68 t69 t70 t71 t72 t73 t74 t75 t76 : Value) (pm x g n cg j h nP cP k : Nat) (a : Option Addr) (len cap : Nat) (l : List Int) (w1 : World) (Q : Exit -> Act -> World -> Prop) (hj : (j : Int) < (n : Int)) (hk : (k : Int) < (nP : Int))
  (hF : w1.cell? ⟨pm,6,none⟩ = some (.slice (some ⟨g,0,none⟩) n cg) /\ w1.cell? ⟨g,j * 2 + 1,none⟩ = some (.slice (some ⟨h,0,none⟩) nP cP) /\ w1.cell? ⟨x,1,none⟩ = some (.slice a len cap) /\ w1.cell? ⟨h,k * 2 + 1,none⟩ = some (.slice a len cap) /\ w1.frozen? ⟨h,k * 2 + 1,none⟩ = false)
  (hC : Hid (∀ W,Below w1.heap.size w1 W -> Calls Tryz.prog 61 #[.slice a len cap] W fun e w' => ∃ a' c',e = .returned (.slice a' len c') /\ w'.ownsRow W.heap.size 3 1 (.slice a' len c') len (intCells l) /\ Below W.heap.size W w'))
  (hQ : Hid (∀ (u62 u63 u64 u65 u66 u67 u68 u69 u70 u71 u72 u73 : Value) (a' : Option Addr) (c' : Nat) (w3 : World),(∃ W,Below w1.heap.size w1 W /\ w3.ownsRow W.heap.size 3 1 (.slice a' len c') len (intCells l)) -> Below w1.heap.size w1 w3 -> Q .normal ⟨#[t0,.pointer (some ⟨pm,0,none⟩),t2,t3,t4,.int .i64 (j : Int),t6,.int .i64 (k : Int),.pointer (some ⟨x,0,none⟩),t9,t10,t11,t12,t13,t14,t15,t16,t17,t18,t19,t20,t21,t22,t23,t24,t25,t26,t27,t28,t29,t30,t31,t32,t33,t34,t35,t36,t37,t38,t39,t40,t41,t42,t43,t44,t45,t46,t47,t48,t49,t50,t51,t52,t53,t54,t55,t56,t57,t58,t59,t60,t61,u62,u63,u64,u65,u66,u67,u68,u69,u70,u71,u72,u73,t74,t75,t76],[]⟩ (w3.setCell ⟨h,k * 2 + 1,none⟩ (.slice a' len c')))) :
  Code.wp Tryz.prog ((Tryz.f36.body.bind (regionOf 16)).getD .skip) Q ⟨#[t0,.pointer (some ⟨pm,0,none⟩),t2,t3,t4,.int .i64 (j : Int),t6,.int .i64 (k : Int),.pointer (some ⟨x,0,none⟩),t9,t10,t11,t12,t13,t14,t15,t16,t17,t18,t19,t20,t21,t22,t23,t24,t25,t26,t27,t28,t29,t30,t31,t32,t33,t34,t35,t36,t37,t38,t39,t40,t41,t42,t43,t44,t45,t46,t47,t48,t49,t50,t51,t52,t53,t54,t55,t56,t57,t58,t59,t60,t61,t62,t63,t64,t65,t66,t67,t68,t69,t70,t71,t72,t73,t74,t75,t76],[]⟩ w1 := by
 have HF : Hid (∀ w',Below w1.heap.size w1 w' -> w'.cell? ⟨pm,6,none⟩ = some (.slice (some ⟨g,0,none⟩) n cg) /\ w'.cell? ⟨g,j * 2 + 1,none⟩ = some (.slice (some ⟨h,0,none⟩) nP cP) /\ w'.cell? ⟨x,1,none⟩ = some (.slice a len cap) /\ w'.cell? ⟨h,k * 2 + 1,none⟩ = some (.slice a len cap) /\ w'.frozen? ⟨h,k * 2 + 1,none⟩ = false) := fun w' hw => by
  obtain ⟨h1,h2,h3,h4,h5⟩ := hF
  exact ⟨(hw.cell (p := ⟨pm,6,none⟩) (World.block_lt_of_cell? w1 ⟨pm,6,none⟩ h1)).trans h1,(hw.cell (p := ⟨g,j * 2 + 1,none⟩) (World.block_lt_of_cell? w1 ⟨g,j * 2 + 1,none⟩ h2)).trans h2,(hw.cell (p := ⟨x,1,none⟩) (World.block_lt_of_cell? w1 ⟨x,1,none⟩ h3)).trans h3,(hw.cell (p := ⟨h,k * 2 + 1,none⟩) (World.block_lt_of_cell? w1 ⟨h,k * 2 + 1,none⟩ h4)).trans h4,(hw.frozen (p := ⟨h,k * 2 + 1,none⟩) (World.block_lt_of_cell? w1 ⟨h,k * 2 + 1,none⟩ h4)).trans h5⟩
 clear hF
 have hS := below_drew w1
 conv => arg 2; whnf
 refine wp_region_but (S := fun w' => Below w1.heap.size w1 w') (n := 12) mixed5 ?_
 refine but_take (i := 0) (v := .pointer (some ⟨pm,6,none⟩)) rfl (by kernel_rfl) (fun _ _ _ h => h) (.inl ⟨rfl,fun w hS => ?_⟩) hS ?_
 ·obtain ⟨s1,s2,s3,s4,s5⟩ := HF.out _ hS
  go_simp
 simp only [Act.put,List.setIfInBounds_toArray,List.set_cons_zero,List.set_cons_succ]
 refine but_take (i := 1) (v := .slice (some ⟨g,0,none⟩) n cg) rfl (by kernel_rfl) (fun _ _ _ h => h) (.inl ⟨rfl,fun w hS => ?_⟩) hS ?_
 ·obtain ⟨s1,s2,s3,s4,s5⟩ := HF.out _ hS
  go_simp
 simp only [Act.put,List.setIfInBounds_toArray,List.set_cons_zero,List.set_cons_succ]
 refine but_take (i := 2) (v := .int .i64 (j : Int)) rfl (by kernel_rfl) (fun _ _ _ h => h) (.inl ⟨rfl,fun w hS => ?_⟩) hS ?_
 ·obtain ⟨s1,s2,s3,s4,s5⟩ := HF.out _ hS
  go_simp
 simp only [Act.put,List.setIfInBounds_toArray,List.set_cons_zero,List.set_cons_succ]
 refine but_take (i := 3) (v := .pointer (some ⟨g,j * 2,none⟩)) rfl (by kernel_rfl) (fun _ _ _ h => h) (.inl ⟨rfl,fun w hS => ?_⟩) hS ?_
 ·obtain ⟨s1,s2,s3,s4,s5⟩ := HF.out _ hS
  go_simp
 simp only [Act.put,List.setIfInBounds_toArray,List.set_cons_zero,List.set_cons_succ]
 refine but_take (i := 4) (v := .pointer (some ⟨g,j * 2 + 1,none⟩)) rfl (by kernel_rfl) (fun _ _ _ h => h) (.inl ⟨rfl,fun w hS => ?_⟩) hS ?_
 ·obtain ⟨s1,s2,s3,s4,s5⟩ := HF.out _ hS
  go_simp
 simp only [Act.put,List.setIfInBounds_toArray,List.set_cons_zero,List.set_cons_succ]
 refine but_take (i := 5) (v := .slice (some ⟨h,0,none⟩) nP cP) rfl (by kernel_rfl) (fun _ _ _ h => h) (.inl ⟨rfl,fun w hS => ?_⟩) hS ?_
 ·obtain ⟨s1,s2,s3,s4,s5⟩ := HF.out _ hS
  go_simp
 simp only [Act.put,List.setIfInBounds_toArray,List.set_cons_zero,List.set_cons_succ]
 refine but_take (i := 6) (v := .int .i64 (k : Int)) rfl (by kernel_rfl) (fun _ _ _ h => h) (.inl ⟨rfl,fun w hS => ?_⟩) hS ?_
 ·obtain ⟨s1,s2,s3,s4,s5⟩ := HF.out _ hS
  go_simp
 simp only [Act.put,List.setIfInBounds_toArray,List.set_cons_zero,List.set_cons_succ]
 refine but_take (i := 7) (v := .pointer (some ⟨x,1,none⟩)) rfl (by kernel_rfl) (fun _ _ _ h => h) (.inl ⟨rfl,fun w hS => ?_⟩) hS ?_
 ·obtain ⟨s1,s2,s3,s4,s5⟩ := HF.out _ hS
  go_simp
 simp only [Act.put,List.setIfInBounds_toArray,List.set_cons_zero,List.set_cons_succ]
 refine but_take (i := 8) (v := .slice a len cap) rfl (by kernel_rfl) (fun _ _ _ h => h) (.inl ⟨rfl,fun w hS => ?_⟩) hS ?_
 ·obtain ⟨s1,s2,s3,s4,s5⟩ := HF.out _ hS
  go_simp
 simp only [Act.put,List.setIfInBounds_toArray,List.set_cons_zero,List.set_cons_succ]
 refine but_one (i := 9) (by kernel_rfl) rfl rfl ?_
 intro K hK
 go_simp
 go_at_call 61
 refine (hC.out _ hS).mono ?_
 rintro en w3 ⟨a',c',rfl,hown3,hb3⟩
 have hS3 : Below w1.heap.size w1 w3 := below2 (below_drew w1) hb3
 have HO : Hid (∃ W,Below w1.heap.size w1 W /\ w3.ownsRow W.heap.size 3 1 (.slice a' len c') len (intCells l)) := ⟨_,below_drew w1,hown3⟩
 refine hK.out _ _ (fun _ => hS3) ?_
 clear hK hS hown3
 have hS := hS3
 try simp only [Act.put,List.setIfInBounds_toArray,List.set_cons_zero,List.set_cons_succ]
 refine but_take (i := 10) (v := .pointer (some ⟨h,k * 2,none⟩)) rfl (by kernel_rfl) (fun _ _ _ h => h) (.inl ⟨rfl,fun w hS => ?_⟩) hS ?_
 ·obtain ⟨s1,s2,s3,s4,s5⟩ := HF.out _ hS
  go_simp
 simp only [Act.put,List.setIfInBounds_toArray,List.set_cons_zero,List.set_cons_succ]
 refine but_take (i := 11) (v := .pointer (some ⟨h,k * 2 + 1,none⟩)) rfl (by kernel_rfl) (fun _ _ _ h => h) (.inl ⟨rfl,fun w hS => ?_⟩) hS ?_
 ·obtain ⟨s1,s2,s3,s4,s5⟩ := HF.out _ hS
  go_simp
 simp only [Act.put,List.setIfInBounds_toArray,List.set_cons_zero,List.set_cons_succ]
 obtain ⟨s1,s2,s3,s4,s5⟩ := HF.out _ hS
 refine but_one (i := 12) (by kernel_rfl) rfl rfl ?_
 intro K hK
 go_simp
 refine hK.out _ _ (fun h => absurd rfl h) ?_
 clear hK
 try simp only [Act.put,List.setIfInBounds_toArray,List.set_cons_zero,List.set_cons_succ]
 refine AnyBut.done (by kernel_rfl) ?_ _
 refine NoPanic.normal ?_
 exact hQ.out _ _ _ _ _ _ _ _ _ _ _ _ a' c' w3 HO.out hS3
end Go.Proofs.YtcncbjknfcjnmaaGreat.Tp
