/-
  slices.Concat of one text and texts.
-/
import Derived.Test.YtmkmogkhkmlnkaaJnE
namespace Go.Proofs.Ytmkmogkhkmlnkaa.Dm
open Go.ChangeShapes Go.WideShapes Go.ChangeAt Go.RowKit
theorem one_T (l : List ByteArray) : ∀ u ∈ Fr.cellsT l, u.oneCell' = true := by
  intro u hu
  obtain ⟨b, -, rfl⟩ := List.mem_map.1 hu
  rfl
theorem row_cells {w : World} {b off n c : Nat} {cs : List Value} (h : Fr.RowAt w (some ⟨b, off, none⟩) n c cs) : ∀ j u, cs[j]? = some u → w.cell? ((⟨b, off, none⟩ : Addr).add j) = some u := h.cells
/-- behind Concat: texts of one's own -/
def CcPost (l : List ByteArray) (w w' : World) (e : Ending) : Prop := ∃ p c, e = .returned (.slice p l.length c) ∧ Fr.RowAt w' p l.length c (Fr.cellsT l) ∧ (∀ x, p = some x → w.heap.size ≤ x.block) ∧ Below w.heap.size w w'
set_option maxHeartbeats 4000000 in
set_option maxRecDepth 60000 in
theorem concat_any (g b1 : Nat) (x : ByteArray) (a2 : Option Addr) (n2 c2 : Nat) (l : List ByteArray) (w : World) (h0 : w.cell? ⟨g, 0, none⟩ = some (.slice (some ⟨b1, 0, none⟩) 1 1)) (h1 : w.cell? ⟨g, 1, none⟩ = some (.slice a2 n2 c2)) (hx : w.cell? ⟨b1, 0, none⟩ = some (.string x)) (hr : Fr.RowAt w a2 n2 c2 (Fr.cellsT l)) (hn : (n2 : Int) ≤ 100000) :
    Calls Try.prog 42 #[.slice (some ⟨g, 0, none⟩) 2 2] w fun e w' => CcPost (x :: l) w w' e := by
  obtain ⟨i0, hi, hz0, hz1, hz2⟩ := info_parts infoS
  have hl : l.length = n2 := by have := hr.1; rwa [Fr.cellsT_length] at this
  have hgl : g < w.heap.size := World.block_lt_of_cell? w ⟨g, 0, none⟩ h0
  have hbl : b1 < w.heap.size := World.block_lt_of_cell? w ⟨b1, 0, none⟩ hx
  have HR : Hid (Fr.RowAt w a2 n2 c2 (Fr.cellsT l)) := hr
  have HG : Calls Try.prog 56 #[.slice none 0 0, .int .i64 (1 + (n2 : Int))] w fun e w' => GrPost w w' e := by
    have := growT_any (1 + n2) (by omega) (by omega) w
    rwa [show ((1 + n2 : Nat) : Int) = 1 + (n2 : Int) by omega] at this
  have t1 : ¬ (1 + (n2 : Int) < 0) := by omega
  have HX : Hid (w.cell? ⟨b1, 0, none⟩ = some (.string x)) := hx
  have HN : Hid ((n2 : Int) ≤ 100000) := hn
  have t2 : wrap64 (1 + (n2 : Int)) = 1 + (n2 : Int) := by unfold wrap64; omega
  clear hr hx hn
  go_enter Try.func42, Try.ntmps42
  go_wp2_with fail
  refine wp_loop_rounds 3 ?_
  rw [rounds_succ]
  go_wp2_with fail
  rw [rounds_succ]
  go_wp2_with fail
  rw [rounds_succ]
  go_wp2_with (go_at_call 56; refine HG.mono ?_; rintro e w2 ⟨cap, rfl, hown2, hb2⟩)
  have k0 : w2.cell? ⟨g, 0, none⟩ = some (.slice (some ⟨b1, 0, none⟩) 1 1) := (hb2.cell (p := ⟨g, 0, none⟩) hgl).trans h0
  have k1 : w2.cell? ⟨g, 1, none⟩ = some (.slice a2 n2 c2) := (hb2.cell (p := ⟨g, 1, none⟩) hgl).trans h1
  have kx : w2.cell? ⟨b1, 0, none⟩ = some (.string x) := (hb2.cell (p := ⟨b1, 0, none⟩) hbl).trans HX.out
  have HB2 : Hid (Below w.heap.size w w2) := hb2
  have HO2 : Hid (w2.ownsRow w.heap.size 9 1 (.slice (some ⟨w.heap.size, 0, none⟩) 0 cap) 0 []) := hown2
  have HKX : Hid (∀ j u, ([.string x] : List Value)[j]? = some u → w2.cell? ((⟨b1, 0, none⟩ : Addr).add j) = some u) := fun j u hj => by
    have hj0 : j = 0 := by
      have := (List.getElem?_eq_some_iff.1 hj).1
      simpa using this
    subst hj0
    rw [addr_add]
    exact kx.trans hj
  clear hb2 hown2 HG kx h0 h1 HX
  refine wp_loop_rounds 3 ?_
  rw [rounds_succ]
  go_wp2_with (at_builtin; refine wpList_append_own _ rfl (.tmp 31) (.tmp 32) 36 rfl w.heap.size 9 i0 (.string ByteArray.empty) 1 16 Try.underlying36 hi hz0 hz1 hz2 rfl (by decide) _ _ _ rfl HO2.out ⟨b1, 0, none⟩ 1 1 [.string x] rfl rfl HKX.out (by intro u hu; simp at hu; subst hu; rfl) (by decide) (by decide) HB2.out.size ?_; intro v3 w3 hown3 hgr3 _)
  have hb3 : Below w.heap.size w w3 := HB2.out.grown hgr3 HB2.out.size (fun k hk => (HO2.out.lt k hk).1)
  have hkeep : ∀ b, b < w.heap.size → w3.heap[b]? = w2.heap[b]? := fun b hb => hgr3.block b (Nat.lt_of_lt_of_le hb HB2.out.size) (fun e => by
    have he : b = w.heap.size := Option.some.inj e
    omega)
  have j1 : w3.cell? ⟨g, 1, none⟩ = some (.slice a2 n2 c2) := (World.cell?_of_block (a := ⟨g, 1, none⟩) (hkeep g hgl)).trans k1
  have HR3 : Hid (Fr.RowAt w3 a2 n2 c2 (Fr.cellsT l)) := HR.out.below hb3
  have HB3 : Hid (Below w.heap.size w w3) := hb3
  have HO3 : Hid (w3.ownsRow w.heap.size 9 1 v3 1 [.string x]) := by
    have := hown3
    rw [Nat.zero_add, List.nil_append] at this
    exact this
  have k03 : Hid (w3.cell? ⟨g, 1, none⟩ = some (.slice a2 n2 c2)) := j1
  clear hb3 hown3 hgr3 hkeep k0 k1 HO2 HB2 HR HKX
  rw [rounds_succ]
  by_cases h20 : n2 = 0
  · subst h20
    obtain rfl : l = [] := List.length_eq_zero_iff.1 hl
    go_wp2_with (at_builtin; refine wpList_append_zero rfl (.tmp 31) (.tmp 32) 36 rfl w.heap.size 9 i0 1 Try.underlying36 hi _ _ _ rfl HO3.out _ _ rfl ?_)
    rw [rounds_succ]
    go_wp2
    go_ret
    obtain ⟨p, c, rfl, hp, hlo⟩ := Fr.RowAt.of_own HO3.out
    exact ⟨p, c, rfl, hp, fun y hy => (hlo y hy).1, HB3.out⟩
  · obtain ⟨b2, o2, rfl, -⟩ := HR3.out.some (by omega)
    go_wp2_with (at_builtin; refine wpList_append_own _ rfl (.tmp 31) (.tmp 32) 36 rfl w.heap.size 9 i0 (.string ByteArray.empty) 1 16 Try.underlying36 hi hz0 hz1 hz2 rfl (by decide) _ _ _ rfl HO3.out ⟨b2, o2, none⟩ n2 c2 (Fr.cellsT l) rfl (by rw [Fr.cellsT_length, hl, Nat.mul_one]) HR3.out.cells (one_T l) (by have := HN.out; unfold maxLen; omega) (by have := HN.out; omega) HB3.out.size ?_; intro v4 w4 hown4 hgr4 _)
    have hb4 : Below w.heap.size w w4 := HB3.out.grown hgr4 HB3.out.size (fun k hk => (HO3.out.lt k hk).1)
    have HB4 : Hid (Below w.heap.size w w4) := hb4
    have HO4 : Hid (w4.ownsRow w.heap.size 9 1 v4 (1 + n2) ([.string x] ++ Fr.cellsT l)) := hown4
    clear hb4 hown4 hgr4
    rw [rounds_succ]
    go_wp2
    go_ret
    obtain ⟨p, c, rfl, hp, hlo⟩ := Fr.RowAt.of_own HO4.out
    have e : (x :: l).length = 1 + n2 := by simp [hl]; omega
    refine ⟨p, c, by rw [e]; rfl, ?_, fun y hy => (hlo y hy).1, HB4.out⟩
    rw [e]
    exact hp
end Go.Proofs.Ytmkmogkhkmlnkaa.Dm
