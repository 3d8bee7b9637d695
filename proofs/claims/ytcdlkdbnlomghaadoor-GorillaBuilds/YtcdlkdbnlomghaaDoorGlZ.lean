/-
  append(s, make([]int, k)...) onto a row of one's own.
-/
import Derived.Test.YtcdlkdbnlomghaaDoorBiT
import Derived.Lib.AppendZerosOnto
namespace Go.Proofs.YtcdlkdbnlomghaaDoor.Gl
open Go.ChangeShapes Go.WideShapes Go.ChangeAt Go.RowKit
open Go.Proofs.YtcdlkdbnlomghaaDoor.Bi
theorem zerosI (k : Nat) : Builtin.zeroCells (Value.int .i64 0).cells k = (List.replicate k (Value.int .i64 0)).toArray := by
  unfold Builtin.zeroCells
  have e : (Value.int .i64 0).cells = #[.int .i64 0] := rfl
  rw [e]
  refine Array.ext (by simp) fun i h1 h2 => ?_
  simp at h1
  simp [Nat.mod_one]
theorem rep_one (k : Nat) : ∀ u ∈ List.replicate k (Value.int .i64 0), u.oneCell' = true := by
  intro u hu
  rw [List.eq_of_mem_replicate hu]
  rfl
theorem infoIn : (Tryd.prog.info? 3).map (fun i => (i.zero, i.size, i.bytes)) = some (some (.int .i64 0), 1, 8) := by kernel_rfl
theorem run_own_zeros (w : World) (ty : TypeId) (base n k : Nat) (v : Value) (xs : List Value) (hown : w.ownsRow base 3 1 v n xs) (h0 : 0 < n) (hk : n + k ≤ 100000) (hbase : base ≤ w.heap.size) :
    ∃ v' w', (Builtin.append_ #[49, 3] ty #[v, .int .i64 (k : Int)]).run Tryd.prog w = .ok v' w' ∧ w'.ownsRow base 3 1 v' (n + k) (xs ++ List.replicate k (.int .i64 0)) ∧ w.grownBy w' v.ownBlock := by
  obtain ⟨i, hi, hz0, hz1, hz2⟩ := info_parts infoIn
  have ht := Tryd.underlying49
  have htn := Tryd.underlying3
  have hlen : (xs ++ List.replicate k (Value.int .i64 0)).length = (n + k) * 1 := by rw [List.length_append, hown.1]; simp
  rcases hown.2 with ⟨rfl, rfl⟩ | ⟨g, cap, cur, rfl, hbg, hg, hnc, hcm, hcs, htake⟩
  · omega
  · have hw : IntKind.i64.wrap (k : Int) = k := by rw [IntKind.wrap_i64]; omega
    have h48i : ¬ (281474976710656 < (k : Int) * 8) := by omega
    by_cases hroom : n + k ≤ cap
    · have hst := run_storeCells_at Tryd.prog g (n * 1) 3 (List.replicate k (.int .i64 0)) 0 cur w hg (by simp at hcs ⊢; omega) (rep_one k)
      simp only [Nat.add_zero] at hst
      refine ⟨.slice (some ⟨g, 0, none⟩) (n + k) cap, w.setRow g (cur.toList.take (n * 1) ++ List.replicate k (Value.int .i64 0) ++ cur.toList.drop (n * 1 + (List.replicate k (Value.int .i64 0)).length)).toArray, ?_, ⟨hlen, .inr ⟨g, cap, _, rfl, hbg, setRow_heap w g cur _ _ _ hg, hroom, hcm, ?_, ?_⟩⟩, ⟨rfl, rfl, rfl, by simp, fun j _ hj => setRow_other w g j _ (fun e => hj (by simp [Value.ownBlock, e]))⟩⟩
      · by_cases hk0 : k = 0
        · subst hk0
          have e : cur.toList.take (n * 1) ++ List.replicate 0 (Value.int .i64 0) ++ cur.toList.drop (n * 1 + (List.replicate 0 (Value.int .i64 0)).length) = cur.toList := by simp
          rw [e] at hst ⊢
          have hw0 : IntKind.i64.wrap (0 : Int) = 0 := by decide
          simp only [Nat.mul_one, List.replicate_zero] at hst
          simp [Builtin.append_, run_underlying ht, run_underlying htn, sizeOf, typeInfo, hi, hz1, asInt, asIntOf, hw0, hnc, Addr.add_lit, hst]
        · have hneg : ¬ ((k : Int) < 0) := by omega
          simp only [Nat.mul_one, List.length_replicate] at hst ⊢
          simp [Builtin.append_, run_underlying ht, run_underlying htn, sizeOf, typeInfo, zeroValue, hi, hz0, hz1, hz2, asInt, asIntOf, hw, h48i, hneg, hk0, hroom, zerosI, Addr.add_lit]
          rw [hst, List.append_assoc]
          rfl
      · simp only [List.size_toArray, List.length_append, List.length_take, List.length_drop, Array.length_toList, List.length_replicate]
        omega
      · rw [htake, ← hlen]
        exact List.take_left
    · have hz1' : 0 < i.size := by omega
      have hold : (Builtin.firstCells i.size n (.slice (some ⟨g, 0, none⟩) n cap)).run Tryd.prog w.drew = .ok xs.toArray w.drew := run_firstCells_some (P := Tryd.prog) w.drew i.size n ⟨g, 0, none⟩ n cap xs (by rw [hz1]; exact hown.1) (fun j u hj => hown.cells (g := g) rfl j u hj)
      have hr := Go.Lib.run_append_grow_zeros w 49 3 ty 3 i (.int .i64 0) .i64 .i64 ht htn hi hz0 (some ⟨g, 0, none⟩) n cap xs hold k (by omega) hz1' (by omega) (by omega) (by rw [hz2]; omega) (growslice_fits (by omega) (by rw [hz2]; omega))
      refine ⟨_, _, hr, ⟨hlen, .inr ⟨w.heap.size, _, _, rfl, hbase, heap_alloc_new w.drew _, grownCap_ge w (n + k) cap _, grownCap_le_maxLen w (n + k) cap _ (by unfold maxLen; omega), ?_, ?_⟩⟩, ⟨rfl, rfl, rfl, by simp, fun j hj _ => heap_alloc_old w.drew _ hj⟩⟩
      · have := grownCap_ge w (n + k) cap 3
        have hx := hown.1
        simp only [zerosI, Array.size_append, List.size_toArray, List.length_replicate]
        omega
      · have hx := hown.1
        simp only [zerosI, Array.toList_append]
        rw [show (n + k) * 1 = (xs ++ List.replicate k (Value.int .i64 0)).length from hlen.symm]
        exact List.take_left
end Go.Proofs.YtcdlkdbnlomghaaDoor.Gl
