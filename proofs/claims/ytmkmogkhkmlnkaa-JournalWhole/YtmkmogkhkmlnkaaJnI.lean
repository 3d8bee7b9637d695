/-
  framed: the frames of data, with an age.
-/
import Derived.Test.YtmkmogkhkmlnkaaJnH
namespace Go.Proofs.Ytmkmogkhkmlnkaa.Dm
open Go.ChangeShapes Go.WideShapes Go.ChangeAt Go.RowKit
/-- data of an age that have frames in a row of so many bytes -/
def FitA (g M : Nat) (ds : List Fr.Dat) : Prop := (∀ d ∈ ds, OkA g d) ∧ (flatA g ds).length ≤ M
def FmPost (w : World) (g M : Nat) (ds : List Fr.Dat) (e : Ending) (w' : World) : Prop := Below w.heap.size w w' ∧ ((∃ v, e = .returned (.tuple #[v, .int .i64 0]) ∧ w'.ownsRow w.heap.size 5 1 v (flatA g ds).length (cellsB (flatA g ds)) ∧ FitA g M ds) ∨ (∃ c : Nat, e = .returned (.tuple #[.slice none 0 0, .int .i64 (c : Int)]) ∧ c ≠ 0 ∧ ¬ FitA g M ds))
theorem flatA_take (g : Nat) (ds : List Fr.Dat) (k : Nat) (h : k < ds.length) : flatA g (ds.take (k + 1)) = flatA g (ds.take k) ++ frA g (ds.getD k ([], [])) := by
  rw [Fr.take_getD ds ([], []) k h, flatA_snoc]
theorem flatA_take_le (g : Nat) (ds : List Fr.Dat) (k : Nat) : (flatA g (ds.take k)).length ≤ (flatA g ds).length := by
  have : flatA g ds = flatA g (ds.take k) ++ flatA g (ds.drop k) := by
    unfold flatA
    rw [← List.flatMap_append, List.take_append_drop]
  rw [this, List.length_append]
  omega
/-- what stands where k of the data were looked at -/
def FmI (w : World) (g M : Nat) (ds : List Fr.Dat) (k : Nat) (full : Bool) (v : Value) (wr : World) : Prop := Below w.heap.size w wr ∧ (∀ d ∈ ds.take k, OkA g d) ∧ ((full = false ∧ wr.ownsRow w.heap.size 5 1 v (flatA g (ds.take k)).length (cellsB (flatA g (ds.take k))) ∧ (flatA g (ds.take k)).length ≤ M) ∨ (full = true ∧ (∃ X : List UInt8, wr.ownsRow w.heap.size 5 1 v X.length (cellsB X) ∧ X.length ≤ M) ∧ M < (flatA g (ds.take k)).length))
theorem FmI.len {w : World} {g M : Nat} {ds : List Fr.Dat} {k : Nat} {full : Bool} {v : Value} {wr : World} (h : FmI w g M ds k full v wr) : ∃ p n c, v = .slice p n c ∧ n ≤ M := by
  rcases h.2.2 with ⟨-, ho, hm⟩ | ⟨-, ⟨X, ho, hm⟩, -⟩
  · obtain ⟨p, c, e, -⟩ := own_len ho
    exact ⟨p, _, c, e, hm⟩
  · obtain ⟨p, c, e, -⟩ := own_len ho
    exact ⟨p, _, c, e, hm⟩
theorem all_take {P : Fr.Dat → Prop} {ds : List Fr.Dat} {k : Nat} (h : k < ds.length) (h1 : ∀ d ∈ ds.take k, P d) (h2 : P (ds.getD k ([], []))) : ∀ d ∈ ds.take (k + 1), P d := by
  intro d hd
  rw [Fr.take_getD ds ([], []) k h] at hd
  rcases List.mem_append.1 hd with hd | hd
  · exact h1 d hd
  · rw [List.mem_singleton.1 hd]; exact h2
theorem data_fit {w : World} {v : Value} {nums : List Int} {texts : List ByteArray} (h : Fr.DataAt w v nums texts) : Fr.Fit nums texts := by
  obtain ⟨_, _, _, _, _, _, -, -, -, h3, h4⟩ := h
  exact ⟨h3, h4⟩
/-- behind Frame of data with an age -/
def FrAPost (g : Nat) (d : Fr.Dat) (w : World) (e : Ending) (w' : World) : Prop := ∃ a n c, ∃ z : Nat, e = .returned (.tuple #[.slice a n c, .int .i64 (z : Int)]) ∧ Hid (Below w.heap.size w w' ∧ ((z = 0 ∧ n = (frA g d).length ∧ w'.ownsRow w.heap.size 5 1 (.slice a n c) n (cellsB (frA g d)) ∧ OkA g d) ∨ (z ≠ 0 ∧ ¬ OkA g d)))
theorem frameA_any (g : Nat) (d : Fr.Dat) (v : Value) (w : World) (h : Fr.DataAt w v d.1 (txtA g :: d.2)) : Calls Try.prog 24 #[v] w fun e w' => FrAPost g d w e w' := by
  refine (Fr.frame_any v _ _ w h _ rfl).mono ?_
  rintro e w' ⟨hb, ⟨v', rfl, ho, hle⟩ | ⟨rfl, hgt⟩⟩
  · obtain ⟨a, c, rfl, -, -⟩ := Fr.RowAt.of_own ho
    exact ⟨a, _, c, 0, rfl, hb, .inl ⟨rfl, rfl, ho, data_fit h, hle⟩⟩
  · refine ⟨none, 0, 0, 4, rfl, hb, .inr ⟨by decide, fun hok => ?_⟩⟩
    have : (Fr.bytesL d.1 (txtA g :: d.2)).length ≤ 4096 := hok.2
    omega
set_option maxHeartbeats 8000000 in
set_option maxRecDepth 60000 in
theorem framed_any (a : Option Addr) (len cap : Nat) (ds : List Fr.Dat) (w : World) (h : Fr.DRow w a len cap ds) (hlen : (len : Int) ≤ 300000) (hT : ∀ d ∈ ds, ((d.2.length : Nat) : Int) ≤ 100000) (g : Nat) (hg : (g : Int) ≤ 2147483647) (M : Nat) (hM : (M : Int) ≤ 300000) :
    Calls Try.prog 32 #[.slice a len cap, .int .i64 (g : Int), .int .i64 (M : Int)] w fun e w' => FmPost w g M ds e w' := by
  obtain ⟨i0, hi, hz0, hz1, hz2⟩ := info_parts info5z
  have hl : ds.length = len := h.1
  have HR : Hid (Fr.DRow w a len cap ds) := h
  have HT : Hid (∀ d ∈ ds, ((d.2.length : Nat) : Int) ≤ 100000) := hT
  have HM : Hid ((M : Int) ≤ 300000) := hM
  have hM2 : M ≤ 9223372036854775807 := by omega
  have hL2 : len ≤ 9223372036854775807 := by omega
  clear h hT hM hlen
  go_enter Try.func32, Try.ntmps32
  go_wp2
  go_loopw [8, 9, 16] (fun v f i wr => ∃ (k : Nat) (full : Bool), k ≤ len ∧ i = .int .i64 (k : Int) ∧ f = .bool full ∧ Hid (FmI w g M ds k full v wr)) (fun _ _ i _ => len - (intOf i).toNat)
  case atStart => exact ⟨0, false, Nat.zero_le _, rfl, rfl, Below.refl _ _, by simp, .inl ⟨rfl, World.ownsRow_nil _ _ _ _, Nat.zero_le _⟩⟩
  case round =>
    obtain ⟨k, full, hk, rfl, rfl, HI⟩ := hrel
    by_cases hlt : k < len
    · have hbel := HI.out.1
      rcases (HR.out.below hbel).2.2.2 with h0 | ⟨b, off, rfl, hcell⟩
      · omega
      obtain ⟨x1, m1, k1, x2, m2, k2, e0, e1, hd⟩ := hcell k hlt
      have hi0 : (0 : Int) ≤ (k : Int) := by omega
      have hi1 : (k : Int) < (len : Int) := by omega
      have hTk : (((ds.getD k ([], [])).2.length : Nat) : Int) ≤ 100000 := HT.out _ (Fr.getD_mem ds ([], []) k (by omega))
      have HFT := flatA_take g ds k (by omega)
      have HAT : Hid (∀ P : Fr.Dat → Prop, (∀ d ∈ ds.take k, P d) → P (ds.getD k ([], [])) → ∀ d ∈ ds.take (k + 1), P d) := fun P h1 h2 => all_take (by omega) h1 h2
      have HIN : Hid (∀ P : Fr.Dat → Prop, (∀ d ∈ ds, P d) → P (ds.getD k ([], []))) := fun P h1 => h1 _ (Fr.getD_mem ds ([], []) k (by omega))
      generalize ds.getD k ([], []) = d at *
      have hbx := below_alloc wr (.cells #[.slice x1 m1 k1, .slice x2 m2 k2] 38)
      have hx0 := heap_alloc_new wr (.cells #[.slice x1 m1 k1, .slice x2 m2 k2] 38)
      have HW := withAge_any _ d.1 d.2 _ (hd.below hbx) g hg hTk
      have HFIT : Hid (Fr.Fit d.1 d.2) := data_fit hd
      have HBX : Hid (Below wr.heap.size wr (wr.alloc (.cells #[.slice x1 m1 k1, .slice x2 m2 k2] 38))) := hbx
      have HFT2 : Hid (flatA g (ds.take (k + 1)) = flatA g (ds.take k) ++ frA g d) := HFT
      clear hcell hd hTk hbx hx0 HFT hbel
      go_upto_region 7 with (first | (go_at_call 25; refine HW.mono ?_; rintro en w2 ⟨v2, rfl, hd2, hb2⟩) | (go_at_call 24; refine (frameA_any g d _ _ hd2).mono ?_; rintro en w3 ⟨fa, fn, fc, z, rfl, HE⟩))
      have HB3 : Hid (Below wr.heap.size wr w3) := below2 HBX.out (below2 hb2 HE.out.1)
      clear HW hd2 HBX
      by_cases hz : z = 0
      · subst hz
        rcases HE.out.2 with ⟨-, hfn, hfo, hok⟩ | ⟨h9, -⟩
        · have hfo3 : w3.ownsRow wr.heap.size 5 1 (.slice fa fn fc) fn (cellsB (frA g d)) := Fr.own_mono hfo (Nat.le_trans (below_alloc wr (.cells #[.slice x1 m1 k1, .slice x2 m2 k2] 38)).size hb2.size)
          have hnpos : 0 < fn := by rw [hfn]; exact Fr.frD_pos _
          obtain ⟨g3, rfl, hgl3⟩ : ∃ g3, fa = some ⟨g3, 0, none⟩ ∧ wr.heap.size ≤ g3 := by
            rcases hfo3.2 with ⟨e, h0⟩ | ⟨g3, cap3, cur, e, hg3, -⟩
            · omega
            · injection e with e1 e2 e3
              exact ⟨g3, e1, hg3⟩
          have HN : Hid (∀ j u, (cellsB (frA g d))[j]? = some u → w3.cell? ((⟨g3, 0, none⟩ : Addr).add j) = some u) := fun j u hj => by
            rw [addr_add, Nat.zero_add]
            have hjl : j < fn := by
              have := (List.getElem?_eq_some_iff.1 hj).1
              rw [cellsB_length] at this
              omega
            exact (hfo3.cellAt j (by omega)).trans hj
          obtain ⟨bp, bn, bc, rfl, hbn⟩ := HI.out.len
          have HFC : Hid (fn ≤ 5000) := by
            show _ ≤ _
            have h1 : (Fr.bytesL d.1 (txtA g :: d.2)).length ≤ 4096 := hok.2
            rw [hfn]
            unfold frA Fr.frD Fr.frameL
            have h2 := Fr.countL_le10 (Fr.bytesL d.1 (txtA g :: d.2)).length (by omega)
            simp only [List.length_append, Fr.fourL_length]
            omega
          have HOK : Hid (∀ d ∈ ds.take (k + 1), OkA g d) := HAT.out (OkA g) HI.out.2.1 hok
          have HBW : Hid (Below w.heap.size w w3) := below2 HI.out.1 HB3.out
          have hf2 : ((0 : Nat) : Int) = 0 := rfl
          have hwl := HI.out.1.size
          cases full
          · rcases HI.out.2.2 with ⟨-, hbo, hbm⟩ | ⟨h9, -⟩
            · have hbn2 : bn = (flatA g (ds.take k)).length := by
                have := hbo.1
                obtain ⟨p', c', e', -⟩ := own_len hbo
                injection e' with _ e' _
              have hbo3 : w3.ownsRow w.heap.size 5 1 (.slice bp bn bc) bn (cellsB (flatA g (ds.take k))) := by
                rw [hbn2] at hbo ⊢
                exact own_of hbo (fun j hj => HB3.out.block j (hbo.lt j hj).2)
              by_cases hover : (M : Int) - (bn : Int) < (fn : Int)
              · have HNX : Hid (FmI w g M ds (k + 1) true (.slice bp bn bc) w3) := ⟨HBW.out, HOK.out, .inr ⟨rfl, ⟨flatA g (ds.take k), by rw [← hbn2]; exact hbo3, hbm⟩, by rw [HFT2.out, List.length_append, ← hbn2, ← hfn]; omega⟩⟩
                have hdo : decide ((M : Int) - (bn : Int) < (fn : Int)) = true := decide_eq_true hover
                clear HI HE HB3 hb2 hfo hfo3 hok hbo hbo3 HN HIN HAT HFIT HOK HBW HFT2 hfn hbn2 hbm
                go_wp2
                go_roundw
                case rel => exact ⟨k + 1, true, by omega, by go_num, rfl, HNX⟩
                case measure => simp [intOf]; omega
              · have hdo : decide ((M : Int) - (bn : Int) < (fn : Int)) = false := decide_eq_false hover
                have HLM : Hid (bn + fn ≤ M) := by show _ ≤ _; omega
                have HO3 : Hid (w3.ownsRow w.heap.size 5 1 (.slice bp bn bc) bn (cellsB (flatA g (ds.take k)))) := hbo3
                have HLN : Hid ((cellsB (frA g d)).length = fn) := by show _ = _; rw [cellsB_length, hfn]
                have HFL : Hid ((flatA g (ds.take (k + 1))).length = bn + fn) := by show _ = _; rw [HFT2.out, List.length_append, ← hbn2, ← hfn]
                clear HI HE HB3 hb2 hfo hfo3 hok hbo hbo3 HIN HAT HFIT hfn hover hbn2 hbm
                go_wp2_with (at_builtin; refine wpList_append_own _ rfl (.tmp 42) (.tmp 43) 39 rfl w.heap.size 5 i0 (.int .u8 0) 1 1 Try.underlying39 hi hz0 hz1 hz2 rfl (by decide) _ _ _ rfl HO3.out ⟨g3, 0, none⟩ fn fc (cellsB (frA g d)) rfl (by rw [HLN.out, Nat.mul_one]) HN.out (cellsB_one _) (by have := HLM.out; have := HM.out; unfold maxLen; omega) (by have := HLM.out; have := HM.out; omega) HBW.out.size ?_; intro v5 w5 hown5 hgr5 _)
                have HNX : Hid (FmI w g M ds (k + 1) false v5 w5) := ⟨HBW.out.grown hgr5 HBW.out.size (fun j hj => (HO3.out.lt j hj).1), HOK.out, .inl ⟨rfl, by rw [HFL.out, HFT2.out, cellsB_append]; exact hown5, by rw [HFL.out]; exact HLM.out⟩⟩
                clear hown5 hgr5 HO3 HLN HFL HLM HOK HBW HN HFT2
                go_wp2
                go_roundw
                case rel => exact ⟨k + 1, false, by omega, by go_num, rfl, HNX⟩
                case measure => simp [intOf]; omega
            · exact absurd h9 (by decide)
          · rcases HI.out.2.2 with ⟨h9, -⟩ | ⟨-, ⟨X, hXo, hXm⟩, hMX⟩
            · exact absurd h9 (by decide)
            · have HNX : Hid (FmI w g M ds (k + 1) true (.slice bp bn bc) w3) := ⟨HBW.out, HOK.out, .inr ⟨rfl, ⟨X, own_of hXo (fun j hj => HB3.out.block j (hXo.lt j hj).2), hXm⟩, by rw [HFT2.out, List.length_append]; omega⟩⟩
              clear HI HE HB3 hb2 hfo hfo3 hok hXo HN HIN HAT HFIT HOK HBW HFT2 hfn hMX
              go_wp2
              go_roundw
              case rel => exact ⟨k + 1, true, by omega, by go_num, rfl, HNX⟩
              case measure => simp [intOf]; omega
        · exact absurd rfl h9
      · have hz2 : ((z : Int) != 0) = true := by simp; omega
        have HBAD : Hid (FmPost w g M ds (.returned (.tuple #[.slice none 0 0, .int .i64 (z : Int)])) w3) := ⟨below2 HI.out.1 HB3.out, .inr ⟨z, rfl, hz, fun hf => by
          rcases HE.out.2 with ⟨h9, -⟩ | ⟨-, hno⟩
          · exact hz h9
          · exact hno (HIN.out (OkA g) hf.1)⟩⟩
        clear HE HB3 hb2
        go_wp2
        go_returns
        exact HBAD.out
    · obtain rfl : k = len := by omega
      have htk : ds.take k = ds := List.take_of_length_le (by omega)
      have HI2 := HI.out
      unfold FmI at HI2
      rw [htk] at HI2
      obtain ⟨hb, hall, hcase⟩ := HI2
      have hnlt : ¬ (k : Int) < (k : Int) := by omega
      rcases hcase with ⟨rfl, ho, hle⟩ | ⟨rfl, -, hgt⟩
      · have HOUT : Hid (FmPost w g M ds (.returned (.tuple #[u8, .int .i64 0])) wr) := ⟨hb, .inl ⟨u8, rfl, ho, hall, hle⟩⟩
        clear HI hb hall ho hle htk
        go_wp2
        go_returns
        exact HOUT.out
      · have HOUT : Hid (FmPost w g M ds (.returned (.tuple #[.slice none 0 0, .int .i64 ((6 : Nat) : Int)])) wr) := ⟨hb, .inr ⟨6, rfl, by decide, fun hf => by have := hf.2; omega⟩⟩
        clear HI hb hall hgt htk
        go_wp2
        go_returns
        exact HOUT.out
end Go.Proofs.Ytmkmogkhkmlnkaa.Dm
