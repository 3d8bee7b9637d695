/-
  The contract of Join.
-/
import Derived.Test.YtcdlkdbnlomghaaDoorBiJ
namespace Go.Proofs.YtcdlkdbnlomghaaDoor.Bi
open Go.ChangeShapes Go.WideShapes Go.ChangeAt Go.RowKit
theorem St.new2 (w : World) (v0 v1 b0 b1 : Value) : St w (((w.alloc (.cells #[v0, v1] 26)).alloc (.cells #[b0, b1] 26)).alloc (.cells #[.slice none 0 0, .int .i64 0] 26)) w.heap.size (w.heap.size + 2) v0 v1 (.slice none 0 0) (.int .i64 0) ∧
    B2 (((w.alloc (.cells #[v0, v1] 26)).alloc (.cells #[b0, b1] 26)).alloc (.cells #[.slice none 0 0, .int .i64 0] 26)) (w.heap.size + 1) 26 b0 b1 := by
  have s1 : (w.alloc (.cells #[v0, v1] 26)).heap.size = w.heap.size + 1 := by simp
  have s2 : ((w.alloc (.cells #[v0, v1] 26)).alloc (.cells #[b0, b1] 26)).heap.size = w.heap.size + 2 := by simp
  have h1 := B2.new (w.alloc (.cells #[v0, v1] 26)) 26 b0 b1
  rw [s1] at h1
  have h2 := B2.new ((w.alloc (.cells #[v0, v1] 26)).alloc (.cells #[b0, b1] 26)) 26 (.slice none 0 0) (.int .i64 0)
  rw [s2] at h2
  exact ⟨⟨below2 (below2 (below_alloc w _) (below_alloc _ _)) (below_alloc _ _), ((B2.new w _ _ _).below (below_alloc _ _)).below (below_alloc _ _), h2, by omega⟩, h1.below (below_alloc _ _)⟩
end Go.Proofs.YtcdlkdbnlomghaaDoor.Bi
