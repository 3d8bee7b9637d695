/-
  The contract of awake.
-/
import Derived.Test.YtdjfhfpgfobkgaaAp
import Derived.Test.YtdjfhfpgfobkgaaK
namespace Go.Proofs.Ytdjfhfpgfobkgaa
open Go.ChangeShapes Go.WideShapes Go.ChangeAt Go.RowKit
theorem two_perm {α : Type} {l : List α} {x y : α} (h : l.Perm [x, y]) : l = [x, y] ∨ l = [y, x] := by
  have hl := h.length_eq
  match l, hl with
  | [p, q], _ =>
    have hp : p = x ∨ p = y := by
      have := h.mem_iff (a := p)
      simpa using this
    rcases hp with rfl | rfl
    · have h1 := (List.perm_cons p).1 h
      have := List.perm_singleton.1 h1
      simp at this
      exact .inl (by rw [this])
    · have h1 := (List.perm_cons p).1 (h.trans (List.Perm.swap p x []))
      have := List.perm_singleton.1 h1
      simp at this
      exact .inr (by rw [this])
theorem three_loads : loadsF zoneF 0 0 three = [(2, 2, 80000), (3, 3, 0)] := by decide
theorem three_zones {out : List Ch} (h : WeighIs zoneF 0 0 three out) : out = [(2, 65536), (3, 0)] := by
  rcases h with ⟨_, L', hp, hs, rfl⟩ | ⟨h, _⟩
  · rw [three_loads] at hp
    rcases two_perm hp with rfl | rfl
    · rfl
    · have := hs 0 1 (by omega) (by simp)
      exact absurd (.inl (by decide)) this
  · exact absurd three_may h
set_option maxHeartbeats 2000000 in
set_option maxRecDepth 60000 in
theorem awake_any (w : World) : Calls Try.prog 5 #[] w fun e w' => TruePost w e w' := by
  have hcl := fun (j : Nat) (u : Value) (h : [.int .i64 1, .int .i64 2, .int .i64 1, .int .i64 40000, .bool false, .bool true, .int .i64 5, .int .i64 2, .int .i64 3, .int .i64 40000, .bool false, .bool true, .int .i64 7, .int .i64 3, .int .i64 3, .int .i64 5, .bool false, .bool false][j]? = some u) => cells_lit w [.int .i64 1, .int .i64 2, .int .i64 1, .int .i64 40000, .bool false, .bool true, .int .i64 5, .int .i64 2, .int .i64 3, .int .i64 40000, .bool false, .bool true, .int .i64 7, .int .i64 3, .int .i64 3, .int .i64 5, .bool false, .bool false] 25 j u h
  have hw1 : w.alloc (.cells [.int .i64 1, .int .i64 2, .int .i64 1, .int .i64 40000, .bool false, .bool true, .int .i64 5, .int .i64 2, .int .i64 3, .int .i64 40000, .bool false, .bool true, .int .i64 7, .int .i64 3, .int .i64 3, .int .i64 5, .bool false, .bool false].toArray 25) = w.alloc (.cells #[.int .i64 1, .int .i64 2, .int .i64 1, .int .i64 40000, .bool false, .bool true, .int .i64 5, .int .i64 2, .int .i64 3, .int .i64 40000, .bool false, .bool true, .int .i64 7, .int .i64 3, .int .i64 3, .int .i64 5, .bool false, .bool false] 25) := rfl
  rw [hw1] at hcl
  have hb1 : Below w.heap.size w (w.alloc (.cells #[.int .i64 1, .int .i64 2, .int .i64 1, .int .i64 40000, .bool false, .bool true, .int .i64 5, .int .i64 2, .int .i64 3, .int .i64 40000, .bool false, .bool true, .int .i64 7, .int .i64 3, .int .i64 3, .int .i64 5, .bool false, .bool false] 25)) := below_alloc _ _
  have hs1 : w.heap.size < (w.alloc (.cells #[.int .i64 1, .int .i64 2, .int .i64 1, .int .i64 40000, .bool false, .bool true, .int .i64 5, .int .i64 2, .int .i64 3, .int .i64 40000, .bool false, .bool true, .int .i64 7, .int .i64 3, .int .i64 3, .int .i64 5, .bool false, .bool false] 25)).heap.size := by simp
  have HCL : Hid (∀ i u, [.int .i64 1, .int .i64 2, .int .i64 1, .int .i64 40000, .bool false, .bool true, .int .i64 5, .int .i64 2, .int .i64 3, .int .i64 40000, .bool false, .bool true, .int .i64 7, .int .i64 3, .int .i64 3, .int .i64 5, .bool false, .bool false][i]? = some u → (w.alloc (.cells #[.int .i64 1, .int .i64 2, .int .i64 1, .int .i64 40000, .bool false, .bool true, .int .i64 5, .int .i64 2, .int .i64 3, .int .i64 40000, .bool false, .bool true, .int .i64 7, .int .i64 3, .int .i64 3, .int .i64 5, .bool false, .bool false] 25)).cell? ⟨w.heap.size, i, none⟩ = some u) := fun i u h => by
    have := hcl i u h
    rw [addr_add, Nat.zero_add] at this
    exact this
  clear hcl hw1
  have HZ : Hid (Calls Try.prog 11 #[.slice (some ⟨w.heap.size, 0, none⟩) 3 3] (w.alloc (.cells #[.int .i64 1, .int .i64 2, .int .i64 1, .int .i64 40000, .bool false, .bool true, .int .i64 5, .int .i64 2, .int .i64 3, .int .i64 40000, .bool false, .bool true, .int .i64 7, .int .i64 3, .int .i64 3, .int .i64 5, .bool false, .bool false] 25)) fun e w' => WeighPost zoneF 0 0 three (w.alloc (.cells #[.int .i64 1, .int .i64 2, .int .i64 1, .int .i64 40000, .bool false, .bool true, .int .i64 5, .int .i64 2, .int .i64 3, .int .i64 40000, .bool false, .bool true, .int .i64 7, .int .i64 3, .int .i64 3, .int .i64 5, .bool false, .bool false] 25)) e w') := zones_any _ 3 3 three _ (three_at HCL.out)
  go_enter Try.func5, Try.ntmps5
  go_wp2_with fail
  refine HZ.out.mono ?_
  rintro e w2 ⟨hb2, az, cz, out, rfl, hc, -, hI⟩
  obtain rfl := three_zones hI
  obtain ⟨bz, oz, rfl, hbz, hcz⟩ := hc.some (by decide)
  obtain ⟨-, z1⟩ := hcz 0 (by decide)
  obtain ⟨-, z3⟩ := hcz 1 (by decide)
  have z1' : w2.cell? ⟨bz, oz + 1, none⟩ = some (.int .i64 65536) := by simpa using z1
  have z3' : w2.cell? ⟨bz, oz + 2 + 1, none⟩ = some (.int .i64 0) := by simpa using z3
  have z3'' : w2.cell? ⟨bz, oz + 3, none⟩ = some (.int .i64 0) := by simpa using z3
  have HA : Hid (Calls Try.prog 13 #[.slice (some ⟨w.heap.size, 0, none⟩) 3 3, .slice (some ⟨w2.heap.size, 0, none⟩) 2 2] (w2.alloc (.cells #[.int .i64 5, .int .i64 7] 3)) fun e w' => e = .returned (.bool true) ∧ Below (w2.alloc (.cells #[.int .i64 5, .int .i64 7] 3)).heap.size (w2.alloc (.cells #[.int .i64 5, .int .i64 7] 3)) w') :=
    apart_three w.heap.size w2.heap.size _ (fun i u h => ((below2 hb2 (below_alloc w2 _)).cell (p := ⟨w.heap.size, i, none⟩) hs1).trans (HCL.out i u h)) (by simp) (by simp)
  have hb3 : Below w.heap.size w (w2.alloc (.cells #[.int .i64 5, .int .i64 7] 3)) := below2 hb1 (below2 hb2 (below_alloc _ _))
  clear HZ HCL hI hc hcz z1 z3 hb1 hb2
  go_wp2_with (go_at_call 13; refine HA.out.mono ?_; rintro e w4 ⟨rfl, hb4⟩)
  go_ret
  exact ⟨rfl, below2 hb3 hb4⟩
end Go.Proofs.Ytdjfhfpgfobkgaa
