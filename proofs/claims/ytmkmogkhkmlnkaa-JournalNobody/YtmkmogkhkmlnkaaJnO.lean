/-
  Append: data follow.
-/
import Derived.Test.YtmkmogkhkmlnkaaJnN
namespace Go.Proofs.Ytmkmogkhkmlnkaa.Dm
open Go.ChangeShapes Go.WideShapes Go.ChangeAt Go.RowKit
def appJ (J : Jr) (x : Fr.Dat) : Jr := ⟨J.second, J.age, J.fr ++ frA J.age x⟩
def appD (n : Nat) (D : Dm) (J : Jr) (x : Fr.Dat) : Dm := rowW n D (appJ J x) J.fr.length
def MayA (n : Nat) (J : Jr) (x : Fr.Dat) : Prop := OkA J.age x ∧ J.fr.length + (frA J.age x).length ≤ roomN n
/-- behind Append -/
def ApPost (B j a s k n : Nat) (D : Dm) (J : Jr) (x : Fr.Dat) (w w' : World) (e : Ending) : Prop := ∃ c : Nat, e = .returned (.int .i64 (c : Int)) ∧ ((c = 0 ∧ MayA n J x ∧ JPost B j a s k n (appD n D J x) (appJ J x) w w') ∨ (c ≠ 0 ∧ ¬ MayA n J x ∧ JPost B j a s k n D J w w'))
theorem JW.grow {B j a s k n : Nat} {D : Dm} {pv : Value} {J : Jr} {fv v' : Value} {w3 w4 : World} (h : JW B j a s k n D pv J fv w3) (hg : w3.grownBy w4 fv.ownBlock) (J' : Jr) (h1 : J'.second = J.second) (h2 : J'.age = J.age) (ho : w4.ownsRow B 5 1 v' J'.fr.length (cellsB J'.fr)) (hat : v'.ownBlock = fv.ownBlock ∨ v'.ownBlock = some w3.heap.size) :
    JPost B j a s k n D J' w3 (w4.setCell ⟨j, 3, none⟩ v') := by
  have hblk : ∀ b, b < w3.heap.size → some b ≠ fv.ownBlock → w4.heap[b]? = w3.heap[b]? := fun b hb hne => hg.block b hb hne
  have hd4 : DmAt B a s k n D pv w4 := h.d.keep fun b hb => hblk b (h.d.lt hb) fun e => by
    obtain ⟨f1, f2, f3, -⟩ := h.fa e.symm
    rcases hb with rfl | rfl | rfl | hb
    · exact f1 rfl
    · exact f2 rfl
    · exact f3 rfl
    · obtain ⟨c1, hc1⟩ := own_T h.d.own hb
      obtain ⟨c2, hc2⟩ := own_T h.r.own e.symm
      exact absurd (heap_T hc1 hc2) (by decide)
  have hbx : w4.heap[j]? = some (.cells (boxJ a J fv) 53 (0, 0)) := (hblk j h.r.lt fun e => (h.fa e.symm).2.2.2 rfl).trans h.r.box
  have hb4 : Below B w3 w4 := below_grown hg (fun g hg => (h.r.own.lt g hg).1) h.d.low
  refine ⟨⟨pv, v', hd4.other hbx 3 _, ⟨h.r.bj, ?_, own_of ho fun g hg' => heap_setCell_ne _ _ _ _ fun e => ?_⟩, fun g hg' => ?_⟩, hb4.trans (below_setCell _ _ _ h.r.bj), ?_⟩
  · have := heap_setCell_same hbx 3 v'
    rw [this]
    show some (Obj.cells #[_, _, _, _] _ _) = some (Obj.cells #[_, _, _, _] _ _)
    rw [h1, h2]
  · obtain ⟨c1, hc1⟩ := own_T ho hg'
    exact absurd (heap_T hc1 (e ▸ hbx)) (by decide)
  · rcases hat with e | e
    · exact h.ap g (e ▸ hg')
    · rw [e] at hg'
      have := Option.some.inj hg'
      have := h.d.lt (.inr (.inl rfl))
      have := h.d.lt (.inr (.inr (.inl rfl)))
      omega
  · refine Kj.trans (fun b c T fz hc t1 t2 t3 t4 => (hblk b (Array.getElem?_eq_some_iff.1 hc).1 fun e => ?_).trans hc) (Kj.set hbx _ _)
    obtain ⟨c2, hc2⟩ := own_T h.r.own e.symm
    exact t3 (heap_T hc hc2)
set_option maxHeartbeats 8000000 in
set_option maxRecDepth 60000 in
theorem append_any {B j a s k n : Nat} {D : Dm} {pv : Value} {J : Jr} {fv : Value} (w : World) (h : JW B j a s k n D pv J fv w) (h8 : 8 ≤ (n : Int)) (hp : (D.pend.length : Int) ≤ 70000) (hg : (J.age : Int) ≤ 2147483647) (hl : J.fr.length ≤ roomN n) (v : Value) (x : Fr.Dat) (hd : Fr.DataAt w v x.1 x.2) (hT : ((x.2.length : Nat) : Int) ≤ 100000) :
    Calls Try.prog 10 #[.pointer (some ⟨j, 0, none⟩), v] w fun e w' => ApPost B j a s k n D J x w w' e := by
  obtain ⟨i0, hi, hz0, hz1, hz2⟩ := info_parts info5z
  have hr := roomN_le h.d.ok.n1
  have hdd := hd
  obtain ⟨y1, p1, q1, y2, p2, q2, rfl, -, -, -, -⟩ := hdd
  obtain ⟨W0, hW0⟩ : ∃ W0, W0 = w.alloc (.cells #[.slice y1 p1 q1, .slice y2 p2 q2] 38) := ⟨_, rfl⟩
  have hb0 : Below w.heap.size w W0 := by rw [hW0]; exact below_alloc _ _
  have hx0 : W0.heap[w.heap.size]? = some (.cells #[.slice y1 p1 q1, .slice y2 p2 q2] 38 (0, 0)) := by rw [hW0]; exact heap_alloc_new _ _
  have hx0l : w.heap.size < W0.heap.size := (Array.getElem?_eq_some_iff.1 hx0).1
  have HH : Hid (JW B j a s k n D pv J fv W0) := h.below hb0
  have HB0 : Hid (Below w.heap.size w W0) := hb0
  have HG := given_any W0 HH.out.r
  have HK : Hid (∀ w', Below W0.heap.size W0 w' → ((w'.cell? ⟨w.heap.size, 0, none⟩ = some (.slice y1 p1 q1) ∧ w'.cell? ⟨w.heap.size, 1, none⟩ = some (.slice y2 p2 q2)) ∧ w'.cell? ⟨j, 2, none⟩ = some (.int .i64 (J.age : Int))) ∧ Below W0.heap.size W0 w') := fun w' hb => ⟨⟨⟨(hb.cell (p := ⟨w.heap.size, 0, none⟩) hx0l).trans (by rw [cell_of_heap hx0]; rfl), (hb.cell (p := ⟨w.heap.size, 1, none⟩) hx0l).trans (by rw [cell_of_heap hx0]; rfl)⟩, (HH.out.below hb).r.c2⟩, hb⟩
  have HA : Hid (∀ w', Below W0.heap.size W0 w' → Calls Try.prog 25 #[.agg #[.slice y1 p1 q1, .slice y2 p2 q2], .int .i64 (J.age : Int)] w' fun e w'' => WaPost x.1 (txtA J.age :: x.2) w' w'' e) := fun w' hb => withAge_any _ _ _ w' (hd.below (below2 hb0 hb)) _ hg hT
  have HW : Hid (W0 = w.alloc (.cells #[.slice y1 p1 q1, .slice y2 p2 q2] 38)) := hW0
  have HP : Hid ((D.pend.length : Int) ≤ 70000) := hp
  have HL : Hid (J.fr.length ≤ roomN n) := hl
  have HR : Hid (((roomN n : Nat) : Int) ≤ 262144) := hr
  have HLOW : Hid (B ≤ w.heap.size) := h.d.low
  clear h hd hT hp hl hr hW0 hx0 hb0
  go_enter Try.func10, Try.ntmps10
  go_upto_region 3 with (go_at_call 23; rw [← HW.out]; refine HG.mono ?_; rintro e w1 ⟨rfl, rfl⟩)
  go_region_held3 (fun w' => ((w'.cell? ⟨w.heap.size, 0, none⟩ = some (.slice y1 p1 q1) ∧ w'.cell? ⟨w.heap.size, 1, none⟩ = some (.slice y2 p2 q2)) ∧ w'.cell? ⟨j, 2, none⟩ = some (.int .i64 (J.age : Int))) ∧ Below w1.heap.size w1 w')
    (first | exact HK.out _ (below_drew _) | exact HK.out _ (below2 (below_drew _) (below2 hb6 H7.out.1)) | exact HK.out _ (below2 (below_drew _) hb6))
    ((first | (go_at_call 25; refine (HA.out _ (by go_split_ands; assumption)).mono ?_; rintro en w6 ⟨v6, rfl, hd6, hb6⟩) | (go_at_call 24; refine (frameA_any J.age x _ _ hd6).mono ?_; rintro en w7 ⟨fa, fn, fc, z, rfl, H7⟩)))
  have hb7 : Below w1.heap.size w1 w7 := below2 (below_drew _) (below2 hb6 H7.out.1)
  have hJ7 := HH.out.below hb7
  have HJ7 : Hid (JW B j a s k n D pv J fv w7) := hJ7
  have HB7 : Hid (Below w.heap.size w w7) := below2 HB0.out hb7
  have HSAME : Hid (∀ w' c, Below w7.heap.size w7 w' → c ≠ 0 → ¬ MayA n J x → ApPost B j a s k n D J x w w' (.returned (.int .i64 ((c : Nat) : Int)))) := fun w' c hb hc hno => ⟨c, rfl, .inr ⟨hc, hno, ⟨pv, fv, HJ7.out.below hb⟩, below_low (below2 HB7.out hb) HLOW.out, Kj.below (below2 HB7.out hb)⟩⟩
  clear HA HK HG
  by_cases hz : z = 0
  · subst hz
    rcases H7.out.2 with ⟨-, hfn, hfo, hok⟩ | ⟨h9, -⟩
    · have HLE := left_any w7 hJ7 h8 HL.out
      have HFN : Hid (fn = (frA J.age x).length) := hfn
      have HFO : Hid (w7.ownsRow w6.heap.size 5 1 (.slice fa fn fc) fn (cellsB (frA J.age x))) := hfo
      have HOK : Hid (OkA J.age x) := hok
      have hR2 : ((roomN n : Nat) : Int) - (J.fr.length : Nat) ≤ 262144 := by have := HR.out; omega
      clear hfn hfo hok H7 hd6 hb6 hb7 hJ7
      by_cases hov : ((roomN n : Nat) : Int) - (J.fr.length : Nat) < (fn : Int)
      · have HOUT : Hid (∀ w', Below w7.heap.size w7 w' → ApPost B j a s k n D J x w w' (.returned (.int .i64 ((6 : Nat) : Int)))) := fun w' hb => HSAME.out w' 6 hb (by decide) fun hm => by have := hm.2; have := HFN.out; omega
        clear HSAME HFO
        generalize ((roomN n : Nat) : Int) - (J.fr.length : Nat) = rest at *
        go_wp2_with (go_at_call 17; refine HLE.mono ?_; rintro en w8 ⟨rfl, hb8⟩)
        go_ret
        exact HOUT.out _ hb8
      · obtain ⟨fp, fcap, rfl, -⟩ := own_len HJ7.out.r.own
        have hnpos : 0 < fn := by rw [HFN.out]; exact frA_pos _ _
        obtain ⟨g3, rfl⟩ : ∃ g3, fa = some ⟨g3, 0, none⟩ := by
          rcases HFO.out.2 with ⟨e, h0⟩ | ⟨g3, cap3, cur, e, hg3, -⟩
          · omega
          · injection e with e1 e2 e3
            exact ⟨g3, e1⟩
        have HNEW : Hid (∀ w', Below w7.heap.size w7 w' → ∀ j u, (cellsB (frA J.age x))[j]? = some u → w'.cell? ((⟨g3, 0, none⟩ : Addr).add j) = some u) := fun w' hb j u hj => by
          rw [addr_add, Nat.zero_add]
          have hjl : j < fn := by
            have := (List.getElem?_eq_some_iff.1 hj).1
            rw [cellsB_length] at this
            have := HFN.out
            omega
          exact (hb.cell (p := ⟨g3, j, none⟩) (HFO.out.lt g3 rfl).2).trans ((HFO.out.cellAt j (by omega)).trans hj)
        have HLN : Hid ((cellsB (frA J.age x)).length = fn) := by show _ = _; rw [cellsB_length, HFN.out]
        have HMAY : Hid (MayA n J x) := ⟨HOK.out, by have := HFN.out; omega⟩
        have HTOT : Hid (((J.fr.length + fn : Nat) : Int) ≤ 262144) := by show _ ≤ _; have := HR.out; omega
        have HOVR : Hid (J.fr.length + fn ≤ roomN n) := by show _ ≤ _; omega
        clear HSAME HFO HOK
        generalize ((roomN n : Nat) : Int) - (J.fr.length : Nat) = rest at *
        go_upto_region 8 with (go_at_call 17; refine HLE.mono ?_; rintro en w8 ⟨rfl, hb8⟩)
        have hJ8 := HJ7.out.below hb8
        have HJ8 : Hid (JW B j a s k n D pv J (.slice fp J.fr.length fcap) w8) := hJ8
        have c3 := hJ8.r.c3
        have hnew8 := HNEW.out w8 hb8
        have HNEW8 : Hid (∀ j u, (cellsB (frA J.age x))[j]? = some u → w8.cell? ((⟨g3, 0, none⟩ : Addr).add j) = some u) := hnew8
        have HB8 : Hid (Below w.heap.size w w8) := below2 HB7.out hb8
        have HSTO : Hid (∀ w9, w8.grownBy w9 (Value.slice fp J.fr.length fcap).ownBlock → w9.cell? ⟨j, 3, none⟩ = some (.slice fp J.fr.length fcap) ∧ w9.frozen? ⟨j, 3, none⟩ = false) := fun w9 hg9 => by
          have hbx : w9.heap[j]? = w8.heap[j]? := hg9.block j HJ8.out.r.lt fun e => (HJ8.out.fa e.symm).2.2.2 rfl
          exact ⟨(World.cell?_of_block (a := ⟨j, 3, none⟩) hbx).trans HJ8.out.r.c3, (World.frozen?_of_block (a := ⟨j, 3, none⟩) hbx).trans (HJ8.out.r.fz 3)⟩
        clear hJ8 hnew8 HNEW hb8 HLE HJ7 HB7 hov hR2 HB0 HH
        go_upto_region 10 with (at_builtin; refine wpList_append_own_at _ rfl (.tmp 38) (.tmp 39) 39 rfl B 5 i0 (.int .u8 0) 1 1 Try.underlying39 hi hz0 hz1 hz2 rfl (by decide) _ _ _ rfl HJ8.out.r.own ⟨g3, 0, none⟩ fn fc (cellsB (frA J.age x)) rfl (by rw [HLN.out, Nat.mul_one]) HNEW8.out (cellsB_one _) (by have := HTOT.out; unfold maxLen; omega) (by have := HTOT.out; omega) HJ8.out.d.low ?_; intro v9 w9 hown9 hgr9 _ hat9; obtain ⟨p9, c9, rfl, -⟩ := own_len hown9; have HAT9 : Hid ((Value.slice p9 (J.fr.length + fn) c9).ownBlock = (Value.slice fp J.fr.length fcap).ownBlock ∨ (Value.slice p9 (J.fr.length + fn) c9).ownBlock = some w8.heap.size) := hat9; clear hat9; have HOWN9 : Hid (w9.ownsRow B 5 1 (.slice p9 (J.fr.length + fn) c9) (J.fr.length + fn) (cellsB J.fr ++ cellsB (frA J.age x))) := hown9; clear hown9; have HGR9 : Hid (w8.grownBy w9 (Value.slice fp J.fr.length fcap).ownBlock) := hgr9; have z3 := (HSTO.out w9 hgr9).1; have zf := (HSTO.out w9 hgr9).2; clear hgr9)
        have hfl : (appJ J x).fr.length = J.fr.length + fn := by show (J.fr ++ frA J.age x).length = _; rw [List.length_append, HFN.out]
        have hP9 := HJ8.out.grow HGR9.out (appJ J x) rfl rfl (by rw [hfl]; show World.ownsRow _ _ _ _ _ _ (cellsB (J.fr ++ frA J.age x)); rw [cellsB_append]; exact HOWN9.out) HAT9.out
        generalize w9.setCell ⟨j, 3, none⟩ (.slice p9 (J.fr.length + fn) c9) = w10 at *
        have HP10 : Hid (JPost B j a s k n D (appJ J x) w w10) := ⟨hP9.1, (below_low HB8.out HLOW.out).trans hP9.2.1, (Kj.below HB8.out).trans hP9.2.2⟩
        obtain ⟨⟨pv10, fv10, hJ10⟩, -, -⟩ := hP9
        have HWR := writeRow_any w10 hJ10 h8 (by rw [hfl]; exact HOVR.out) (by have := HP.out; omega) J.fr.length (.inr (by omega))
        clear hJ10 HGR9 HOWN9 HAT9 z3 zf hfl HJ8 HSTO HNEW8 HB8 c3
        go_wp2_with (go_at_call 26; refine HWR.mono ?_; rintro en w11 ⟨rfl, hP11⟩)
        go_ret
        exact ⟨0, rfl, .inl ⟨rfl, HMAY.out, HP10.out.trans hP11⟩⟩
    · exact absurd rfl h9
  · have hz2 : ((z : Int) != 0) = true := by simp; omega
    have HOUT : Hid (ApPost B j a s k n D J x w w7 (.returned (.int .i64 (z : Int)))) := by
      rcases H7.out.2 with ⟨h9, -⟩ | ⟨-, hno⟩
      · exact absurd h9 hz
      · exact HSAME.out w7 z (Below.refl _ _) hz fun hm => hno hm.1
    clear H7 HSAME hJ7 HJ7 HB7 hd6 hb6 hb7 hz
    go_wp2
    go_ret
    exact HOUT.out
end Go.Proofs.Ytmkmogkhkmlnkaa.Dm
