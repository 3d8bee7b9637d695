/-
  The contract of layAll.
-/
import Derived.Test.YtcdlkdbnlomghaaDoorBiG
import Derived.Test.YtcdlkdbnlomghaaDoorBiB
import Derived.Test.YtcdlkdbnlomghaaDoorBiC
namespace Go.Proofs.YtcdlkdbnlomghaaDoor.Bi
open Go.ChangeShapes Go.WideShapes Go.ChangeAt Go.RowKit
theorem byAt_keep {w w' : World} {g : Nat} {a : Option Addr} {len cap : Nat} {l : List Nat} (h : ByAt w a len cap l) (hk : KeepR g w w') (hne : ∀ p, a = some p → p.block ≠ g) : ByAt w' a len cap l := by
  refine ⟨h.1, h.2.1, h.2.2.1, h.2.2.2.1, h.2.2.2.2.1, ?_⟩
  rcases h.2.2.2.2.2 with h0 | ⟨b, off, e, hc⟩
  · exact .inl h0
  · refine .inr ⟨b, off, e, fun i hi => ?_⟩
    rw [← hc i hi]
    unfold World.cell?
    rw [show w'.heap[(⟨b, off + i, none⟩ : Addr).block]? = _ from hk.else_ b (hne _ e)]
theorem low_piece {m : List Bool} {a s : Nat} (h : a + s ≤ m.length) : low (val (bt m) a s) s = (m.drop a).take s := by
  rw [val_piece h]
  have := low_valL ((m.drop a).take s)
  rwa [show ((m.drop a).take s).length = s by simp; omega] at this
theorem take_more (m : List Bool) (st k s : Nat) : (m.drop st).take k ++ (m.drop (st + k)).take s = (m.drop st).take (k + s) := by
  rw [List.take_add, List.drop_drop]
end Go.Proofs.YtcdlkdbnlomghaaDoor.Bi
