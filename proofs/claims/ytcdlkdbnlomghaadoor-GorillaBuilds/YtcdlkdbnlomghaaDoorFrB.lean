/-
  The contracts of the functions that write counts and numbers: their bytes, laid behind bytes of one's own, or new.
-/
import Derived.Test.YtcdlkdbnlomghaaDoorFrA
import Derived.Maps.AppendAt
import Derived.Laws.OwnMore
import Derived.Lib.Zigzag
namespace Go.Proofs.YtcdlkdbnlomghaaDoor.Fr
open Go.ChangeShapes Go.WideShapes Go.ChangeAt Go.RowKit
theorem info5 : (Tryd.prog.info? 5).map (fun i => (i.zero, i.size, i.bytes)) = some (some (.int .u8 0), 1, 1) := by kernel_rfl
theorem one_u8 (x : Int) : ∀ u ∈ ([.int .u8 x] : List Value), u.oneCell' = true := by intro u hu; simp at hu; subst hu; rfl
theorem cellsB_one (n : Nat) (b : UInt8) (h : b.toNat = n) : cellsB [b] = [.int .u8 (n : Int)] := by simp [cellsB, h]
theorem or_form (n : Nat) : bits .or .u8 ((n : Int) % 256) 128 = (((n % 128 + 128 : Nat)) : Int) := by
  have h := u8_or_nat (n % 256) 128 (Nat.mod_lt _ (by decide)) (by decide)
  have e : n % 256 ||| 128 = n % 128 + 128 := by
    have : ∀ m, m < 256 → m ||| 128 = m % 128 + 128 := by decide +kernel
    rw [this _ (Nat.mod_lt _ (by decide))]; omega
  rw [e] at h
  rw [← h, Int.natCast_emod]
  rfl

theorem own_below {w w' : World} {base s n : Nat} {e : TypeId} {v : Value} {xs : List Value} (h : w.ownsRow base e s v n xs) (hb : Below w.heap.size w w') : w'.ownsRow base e s v n xs := by
  have hlt := h.lt
  obtain ⟨hl, h | ⟨g, cap, cur, rfl, hg, hh, r⟩⟩ := h
  · exact ⟨hl, .inl h⟩
  · exact ⟨hl, .inr ⟨g, cap, cur, rfl, hg, (hb.block g (hlt g rfl).2).trans hh, r⟩⟩
theorem own_form {w : World} {base n : Nat} {e : TypeId} {v : Value} {xs : List Value} (h : w.ownsRow base e 1 v n xs) (h0 : 0 < n) :
    ∃ g cap, v = .slice (some ⟨g, 0, none⟩) n cap ∧ base ≤ g ∧ g < w.heap.size ∧ ∀ j u, xs[j]? = some u → w.cell? ((⟨g, 0, none⟩ : Addr).add j) = some u := by
  have hown := h
  obtain ⟨hl, ⟨_, h⟩ | ⟨g, cap, cur, rfl, hg, hh, r⟩⟩ := h
  · omega
  · exact ⟨g, cap, rfl, hg, (hown.lt g rfl).2, hown.cells rfl⟩
theorem one_cellsB (l : List UInt8) : ∀ u ∈ cellsB l, u.oneCell' = true := by
  intro u hu
  simp only [cellsB, List.mem_map] at hu
  obtain ⟨b, _, rfl⟩ := hu
  rfl

theorem neg_form (x : Int) (h1 : -9223372036854775808 ≤ x) (h2 : x < 0) :
    bits .xor .u64 IntKind.u64.max (IntKind.u64.wrap (IntKind.u64.wrap x * 2)) = ((-2 * x - 1).toNat : Int) := by
  rw [Go.Lib.zigzag_neg h1 h2, Go.Lib.zigzag, if_neg (by omega)]
end Go.Proofs.YtcdlkdbnlomghaaDoor.Fr
