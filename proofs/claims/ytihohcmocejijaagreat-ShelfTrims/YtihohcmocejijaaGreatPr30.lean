/-
  slices.MinFunc of what was told: the first of those with the least Id.
  What was told, plainly; the drawn regions of remember.
-/
import Derived.Test.YtihohcmocejijaaGreatPr13
import Derived.Test.YtihohcmocejijaaGreatPr20
import Derived.Test.YtihohcmocejijaaGreatPr29
namespace Go.Proofs.YtihohcmocejijaaGreat.Bk
open Go.ChangeShapes Go.WideShapes Go.ChangeAt Go.RowKit
set_option maxRecDepth 60000 in
theorem byId_any (x1 x2 x3 : Int) (x4 : Bool) (x5 m1 m2 m3 : Int) (m4 : Bool) (m5 : Int) (w : World) : Calls Tryz.prog 95 #[.agg #[.int .i64 x1, .int .i64 x2, .int .i64 x3, .bool x4, .int .i64 x5], .agg #[.int .i64 m1, .int .i64 m2, .int .i64 m3, .bool m4, .int .i64 m5]] w fun e w' => e = .returned (.int .i64 (cmpI x2 m2)) ∧ Grown w w' := by
  go_enter Tryz.func95, Tryz.ntmps95
  go_wp2_with (go_at_call 68; refine (cmpInt_any _ _ _).mono ?_; rintro e w1 ⟨rfl, rfl⟩)
  go_ret
  exact ⟨rfl, grown2 (grown_alloc _ _) (grown_alloc _ _)⟩
set_option maxHeartbeats 2000000 in
set_option maxRecDepth 60000 in
theorem minD_any (a : Option Addr) (len cap : Nat) (ds : List Dn) (w : World) (h : DnsAt w a len cap ds) (h0 : 0 < len) (h64 : (len : Int) ≤ 64) :
    Calls Tryz.prog 94 #[.slice a len cap, .func (.func 95) #[] #[]] w fun e w' => Below w.heap.size w w' ∧ e = .returned (dnV (ds.getD (leastD ds) dn0)) := by
  have hl : ds.length = len := h.1
  have HL : Hid (DnsAt w a len cap ds) := h
  obtain ⟨b, off, rfl, hbs, hcell⟩ := h.some h0
  obtain ⟨z0, z1, z2, z3, z4⟩ := hcell 0 h0
  clear hcell h
  rw [Nat.zero_mul, Nat.add_zero] at z0 z1 z2 z3 z4
  have HZ : Hid (ds.getD 0 dn0 = ds.getD (minIx ds 0) dn0) := rfl
  generalize ds.getD 0 dn0 = c at *
  obtain ⟨p1, p2, p3, p4, p5⟩ := c
  simp only at z0 z1 z2 z3 z4
  have h1n : (1 : Int) ≤ (len : Int) := by omega
  go_enter Tryz.func94, Tryz.ntmps94
  go_wp2_with fail
  go_loopw [6] (fun i wr => ∃ (j : Nat) (m1 m2 m3 : Int) (m4 : Bool) (m5 : Int), j + 1 ≤ len ∧ i = .int .i64 ((j : Int) + 1) ∧ Hid (⟨m1, m2, m3, m4, m5⟩ = ds.getD (minIx ds j) dn0) ∧ Bx5 wr (w.heap.size + 1) 51 (.int .i64 m1) (.int .i64 m2) (.int .i64 m3) (.bool m4) (.int .i64 m5) ∧ Bx5 wr w.heap.size 51 (.int .i64 0) (.int .i64 0) (.int .i64 0) (.bool false) (.int .i64 0) ∧ Below w.heap.size w wr) (fun i _ => len - (intOf i).toNat)
  case atStart =>
    refine ⟨0, p1, p2, p3, p4, p5, by omega, rfl, HZ, ?_, ?_, below2 (below_alloc _ _) (below_alloc _ _)⟩
    · have := Bx5.new (w.alloc (.cells #[.int .i64 0, .int .i64 0, .int .i64 0, .bool false, .int .i64 0] 51)) 51 (.int .i64 p1) (.int .i64 p2) (.int .i64 p3) (.bool p4) (.int .i64 p5)
      simpa using this
    · exact (Bx5.new w 51 (.int .i64 0) (.int .i64 0) (.int .i64 0) (.bool false) (.int .i64 0)).below (below_alloc _ _)
  case round =>
    obtain ⟨j, m1, m2, m3, m4, m5, hj, rfl, hT, hbx, hbz, hbel⟩ := hrel
    by_cases hlt : j + 1 < len
    · obtain ⟨b', off', he', hbs', hcell⟩ := (HL.out.below hbel).some (by omega)
      simp only [Option.some.injEq, Addr.mk.injEq, and_true] at he'
      obtain ⟨rfl, rfl⟩ := he'
      have HDC := Hid.mk9 (hcell (j + 1) hlt)
      clear hcell
      have hk1 : (j : Int) + 1 < (len : Int) := by omega
      have hk0 : (0 : Int) ≤ (j : Int) + 1 := by omega
      have hkn : ((j : Int) + 1).toNat = j + 1 := by omega
      have hkw : IntKind.i64.wrap ((j : Int) + 1) = (j : Int) + 1 := by rw [IntKind.wrap_i64]; omega
      obtain ⟨x, hx⟩ : ∃ x, ds.getD (j + 1) dn0 = x := ⟨_, rfl⟩
      rw [hx] at HDC
      have HVT := Hid.mk9 hx
      clear hx
      obtain ⟨x1, x2, x3, x4, x5⟩ := x
      have HC : Hid (∀ W, Calls Tryz.prog 95 #[.agg #[.int .i64 x1, .int .i64 x2, .int .i64 x3, .bool x4, .int .i64 x5], .agg #[.int .i64 m1, .int .i64 m2, .int .i64 m3, .bool m4, .int .i64 m5]] W fun e w' => e = .returned (.int .i64 (cmpI x2 m2)) ∧ Grown W w') := fun W => byId_any _ _ _ _ _ _ _ _ _ _ W
      have hgr : b < wr.heap.size := hbs'
      have HB : Hid (∀ n os, Bx5 (Go.Sort.grow (wr.drewN n) os) (w.heap.size + 1) 51 (.int .i64 m1) (.int .i64 m2) (.int .i64 m3) (.bool m4) (.int .i64 m5) ∧ Bx5 (Go.Sort.grow (wr.drewN n) os) w.heap.size 51 (.int .i64 0) (.int .i64 0) (.int .i64 0) (.bool false) (.int .i64 0) ∧ Below w.heap.size w (Go.Sort.grow (wr.drewN n) os)) := fun n os => ⟨hbx.below (below_grow _ _ _), hbz.below (below_grow _ _ _), below2 hbel (below_grow _ _ _)⟩
      obtain ⟨q0, q1, q2, q3, q4⟩ := HDC.out
      simp only at q0 q1 q2 q3 q4
      have y0 := cell_grown (a := ⟨b, off + (j + 1) * 5, none⟩) hgr q0
      have y1 := cell_grown (a := ⟨b, off + (j + 1) * 5 + 1, none⟩) hgr q1
      have y2 := cell_grown (a := ⟨b, off + (j + 1) * 5 + 2, none⟩) hgr q2
      have y3 := cell_grown (a := ⟨b, off + (j + 1) * 5 + 3, none⟩) hgr q3
      have y4 := cell_grown (a := ⟨b, off + (j + 1) * 5 + 4, none⟩) hgr q4
      obtain ⟨c0, c1, c2, c3, c4⟩ := hbx.cells
      have v0 := cell_grown (a := ⟨w.heap.size + 1, 0, none⟩) hbx.lt c0
      have v1 := cell_grown (a := ⟨w.heap.size + 1, 1, none⟩) hbx.lt c1
      have v2 := cell_grown (a := ⟨w.heap.size + 1, 2, none⟩) hbx.lt c2
      have v3 := cell_grown (a := ⟨w.heap.size + 1, 3, none⟩) hbx.lt c3
      have v4 := cell_grown (a := ⟨w.heap.size + 1, 4, none⟩) hbx.lt c4
      have HYES : Hid (x2 < m2 → (⟨x1, x2, x3, x4, x5⟩ : Dn) = ds.getD (minIx ds (j + 1)) dn0) := fun hc => by
        rw [minIx, ← hT.out, HVT.out, if_pos hc, HVT.out]
      have HNO : Hid (¬ (x2 < m2) → (⟨m1, m2, m3, m4, m5⟩ : Dn) = ds.getD (minIx ds (j + 1)) dn0) := fun hc => by
        rw [minIx, ← hT.out, HVT.out, if_neg hc, ← hT.out]
      have HR : Hid (cmpI x2 m2 < 0 ↔ x2 < m2) := by
        unfold cmpI
        constructor
        · intro h; split at h <;> (try split at h) <;> omega
        · intro h; split <;> (try split) <;> omega
      generalize cmpI x2 m2 = r at *
      clear hT HVT q0 q1 q2 q3 q4 hbx hbz z0 z1 z2 z3 z4 c0 c1 c2 c3 c4
      by_cases hr : r < 0
      · have HY := Hid.mk9 (HYES.out (HR.out.1 hr))
        clear HYES HNO HR
        go_wp2_with fail
        refine wp_region_QW mixed5 (by kernel_rfl) ?_
        repeat (refine QW_step (fun K hK => ?_); go_simp; first | (refine hK _ ?_; clear hK K) | (apply Exists.intro; refine ⟨fun _ => ?_, hK _ ?_⟩; (go_at_call 95; refine Calls.grown_of (HC.out _)); clear hK K))
        refine QW_nil ?_
        intro _ hw9
        obtain ⟨⟨nq, osq⟩, hw8⟩ := hw9
        subst hw8
        show Exit.then _ _ _ _ (Go.Sort.grow (wr.drewN nq) osq)
        obtain ⟨hbx, hbz, hbe⟩ := HB.out nq osq
        obtain ⟨q0, q1, q2, q3, q4⟩ := HDC.out.below (below_grow wr nq osq)
        clear HB HDC y0 y1 y2 y3 y4 v0 v1 v2 v3 v4 HC
        generalize Go.Sort.grow (wr.drewN nq) osq = w5 at *
        simp only at q0 q1 q2 q3 q4
        obtain ⟨b0, b1, b2, b3, b4⟩ := hbx.cells
        obtain ⟨f0, f1, f2, f3, f4⟩ := hbx.frz
        have HBX := Hid.mk9 (hbx.set (.int .i64 x1) (.int .i64 x2) (.int .i64 x3) (.bool x4) (.int .i64 x5))
        have HBZ := Hid.mk9 (hbz.kept (put5_else (b := w.heap.size + 1) (.int .i64 x1) (.int .i64 x2) (.int .i64 x3) (.bool x4) (.int .i64 x5) (by omega)))
        have HBE := Hid.mk9 (put5_below hbe (b := w.heap.size + 1) (by omega) (.int .i64 x1) (.int .i64 x2) (.int .i64 x3) (.bool x4) (.int .i64 x5))
        clear hbz hbx hbe
        go_wp2_with fail
        exact ⟨⟨j + 1, x1, x2, x3, x4, x5, by omega, by go_num, HY, HBX.out, HBZ.out, HBE.out⟩, by simp [intOf]; omega⟩
      · have HY := Hid.mk9 (HNO.out (fun h => hr (HR.out.2 h)))
        have hd : decide (r < 0) = false := decide_eq_false hr
        clear HYES HNO HR
        go_wp2_with fail
        refine wp_region_QW mixed5 (by kernel_rfl) ?_
        repeat (refine QW_step (fun K hK => ?_); go_simp; first | (refine hK _ ?_; clear hK K) | (apply Exists.intro; refine ⟨fun _ => ?_, hK _ ?_⟩; (go_at_call 95; refine Calls.grown_of (HC.out _)); clear hK K))
        refine QW_nil ?_
        intro _ hw9
        obtain ⟨⟨nq, osq⟩, hw8⟩ := hw9
        subst hw8
        show Exit.then _ _ _ _ (Go.Sort.grow (wr.drewN nq) osq)
        have HBB := Hid.mk9 (HB.out nq osq)
        clear HB HDC y0 y1 y2 y3 y4 v0 v1 v2 v3 v4 HC
        generalize Go.Sort.grow (wr.drewN nq) osq = w5 at *
        go_wp2_with fail
        exact ⟨⟨j + 1, m1, m2, m3, m4, m5, by omega, by go_num, HY, HBB.out.1, HBB.out.2.1, HBB.out.2.2⟩, by simp [intOf]; omega⟩
    · have hltz : ¬ (j : Int) + 1 < (len : Int) := by omega
      have HE : Hid ((⟨m1, m2, m3, m4, m5⟩ : Dn) = ds.getD (leastD ds) dn0) := by
        have := hT.out
        rw [show j = ds.length - 1 from by omega] at this
        exact this
      obtain ⟨c0, c1, c2, c3, c4⟩ := hbx.cells
      obtain ⟨g0, g1, g2, g3, g4⟩ := hbz.frz
      obtain ⟨k0, k1, k2, k3, k4⟩ := hbz.cells
      have HBX := Hid.mk9 (hbz.set (.int .i64 m1) (.int .i64 m2) (.int .i64 m3) (.bool m4) (.int .i64 m5))
      have HBE := Hid.mk9 (put5_below hbel (b := w.heap.size) (Nat.le_refl _) (.int .i64 m1) (.int .i64 m2) (.int .i64 m3) (.bool m4) (.int .i64 m5))
      clear hT hbx hbz hbel z0 z1 z2 z3 z4
      go_wp2_with fail
      refine bodyPost_ret (retD rfl _ _ w.heap.size (.int .i64 m1) (.int .i64 m2) (.int .i64 m3) (.bool m4) (.int .i64 m5) rfl HBX.out) rfl ?_
      exact ⟨HBE.out, congrArg (fun d => Ending.returned (dnV d)) HE.out⟩
end Go.Proofs.YtihohcmocejijaaGreat.Bk
namespace Go.Proofs.YtihohcmocejijaaGreat.Bk
open Go.ChangeShapes Go.WideShapes Go.ChangeAt Go.RowKit
theorem dns_iff (ds : List Dn) : DnsMay ds ↔ ds.length ≤ 8 ∧ (∀ d ∈ ds, Count d.cl ∧ Count d.id) ∧ ds.Pairwise fun a b => a.cl < b.cl := by
  constructor
  · intro h
    refine ⟨h.1, fun d hd => ?_, ?_⟩
    · obtain ⟨i, hi, rfl⟩ := List.getElem_of_mem hd
      have := (h.2 i hi).2
      rw [getDn hi] at this
      exact this
    · rw [List.pairwise_iff_getElem]
      intro i j hi hj hij
      have := dns_lt h i j hij hj
      rw [getDn hi, getDn hj] at this
      exact this
  · rintro ⟨h1, h2, h3⟩
    refine ⟨h1, fun i hi => ⟨fun h0 => ?_, ?_⟩⟩
    · rw [getDn (show i - 1 < ds.length by omega), getDn hi]
      exact List.pairwise_iff_getElem.1 h3 (i - 1) i (by omega) hi (by omega)
    · rw [getDn hi]
      exact h2 _ (List.getElem_mem hi)
theorem minIx_le (ds : List Dn) (j : Nat) : minIx ds j ≤ j := by
  induction j with
  | zero => exact Nat.le_refl _
  | succ j ih => rw [minIx]; split <;> omega
theorem leastD_lt {ds : List Dn} (h : 0 < ds.length) : leastD ds < ds.length := by
  have := minIx_le ds (ds.length - 1)
  unfold leastD
  omega
theorem erase_may {ds : List Dn} (h : DnsMay ds) (i : Nat) : DnsMay (ds.eraseIdx i) := by
  obtain ⟨h1, h2, h3⟩ := (dns_iff _).1 h
  have hs := List.eraseIdx_sublist ds i
  exact (dns_iff _).2 ⟨Nat.le_trans hs.length_le h1, fun d hd => h2 d (hs.subset hd), h3.sublist hs⟩
theorem findD_yes {ds : List Dn} {c : Int} {k : Nat} (hM : DnsMay ds) (hk : k < ds.length) (e : (ds.getD k dn0).cl = c) : findD ds c = some (ds.getD k dn0) := by
  unfold findD
  rw [List.find?_eq_some_iff_append]
  refine ⟨by simpa using e, ds.take k, ds.drop (k + 1), ?_, fun x hx => ?_⟩
  · rw [getDn hk]
    simp
  · obtain ⟨i, hi, rfl⟩ := List.mem_take_iff_getElem.1 hx
    have h1 := dns_lt hM i k (by omega) hk
    rw [e, getDn (by omega)] at h1
    have : ¬ ds[i].cl = c := by omega
    simpa using this
theorem findD_no {ds : List Dn} {c : Int} {k : Nat} (hP : Pl ds.length (fun j => decide ((ds.getD j dn0).cl < c)) k) (hM : DnsMay ds) (h : ¬ (k < ds.length ∧ (ds.getD k dn0).cl = c)) : findD ds c = none := by
  unfold findD
  rw [List.find?_eq_none]
  intro x hx
  obtain ⟨i, hi, rfl⟩ := List.getElem_of_mem hx
  have hne : ¬ (ds.getD i dn0).cl = c := fun e => by
    by_cases h1 : i < k
    · have := of_decide_eq_true (hP.2.1 i h1)
      omega
    · by_cases h2 : i = k
      · subst h2; exact h ⟨hi, e⟩
      · have h3 := dns_lt hM k i (by omega) hi
        have h4 := of_decide_eq_false (hP.2.2 k (Nat.le_refl _) (by omega))
        omega
  rw [getDn hi] at hne
  simpa using hne
def putD (ds : List Dn) (d : Dn) : List Dn := ds.filter (fun x => decide (x.cl < d.cl)) ++ d :: ds.filter (fun x => decide (d.cl < x.cl))
theorem noteD_eq (ds : List Dn) (d : Dn) : noteD ds d = putD (roomD ds d.cl) d := rfl
theorem putD_split {p m q : List Dn} {d : Dn} (h1 : ∀ l ∈ p, l.cl < d.cl) (h2 : ∀ l ∈ m, l.cl = d.cl) (h3 : ∀ l ∈ q, d.cl < l.cl) : putD (p ++ (m ++ q)) d = p ++ d :: q := by
  unfold putD
  have a1 : p.filter (fun x => decide (x.cl < d.cl)) = p := List.filter_eq_self.2 fun l hl => by simpa using h1 l hl
  have a2 : m.filter (fun x => decide (x.cl < d.cl)) = [] := List.filter_eq_nil_iff.2 fun l hl => by have := h2 l hl; simp; omega
  have a3 : q.filter (fun x => decide (x.cl < d.cl)) = [] := List.filter_eq_nil_iff.2 fun l hl => by have := h3 l hl; simp; omega
  have b1 : p.filter (fun x => decide (d.cl < x.cl)) = [] := List.filter_eq_nil_iff.2 fun l hl => by have := h1 l hl; simp; omega
  have b2 : m.filter (fun x => decide (d.cl < x.cl)) = [] := List.filter_eq_nil_iff.2 fun l hl => by have := h2 l hl; simp; omega
  have b3 : q.filter (fun x => decide (d.cl < x.cl)) = q := List.filter_eq_self.2 fun l hl => by simpa using h3 l hl
  rw [List.filter_append, List.filter_append, List.filter_append, List.filter_append, a1, a2, a3, b1, b2, b3]
  simp
theorem dtake_mem {ds : List Dn} {k : Nat} {x : Dn} (h : x ∈ ds.take k) : ∃ i, i < k ∧ i < ds.length ∧ ds.getD i dn0 = x := by
  obtain ⟨i, hi, rfl⟩ := List.mem_take_iff_getElem.1 h
  exact ⟨i, by omega, by omega, getDn (by omega)⟩
theorem ddrop_mem {ds : List Dn} {k : Nat} {x : Dn} (h : x ∈ ds.drop k) : ∃ i, k ≤ i ∧ i < ds.length ∧ ds.getD i dn0 = x := by
  obtain ⟨i, hi, rfl⟩ := List.mem_drop_iff_getElem.1 h
  exact ⟨k + i, by omega, by omega, getDn (by omega)⟩
theorem putD_set {ds : List Dn} {d : Dn} {k : Nat} (hM : DnsMay ds) (hk : k < ds.length) (e : (ds.getD k dn0).cl = d.cl) : putD ds d = ds.set k d := by
  have e1 : ds = ds.take k ++ ([ds[k]] ++ ds.drop (k + 1)) := by simp
  have e2 : putD (ds.take k ++ ([ds[k]] ++ ds.drop (k + 1))) d = ds.take k ++ d :: ds.drop (k + 1) := by
    refine putD_split (fun l hl => ?_) (fun l hl => ?_) (fun l hl => ?_)
    · obtain ⟨i, h1, h2, rfl⟩ := dtake_mem hl
      rw [← e]; exact dns_lt hM i k h1 hk
    · obtain rfl : l = ds[k] := by simpa using hl
      rw [← e, getDn hk]
    · obtain ⟨i, h1, h2, rfl⟩ := ddrop_mem hl
      rw [← e]; exact dns_lt hM k i (by omega) h2
  rw [← e1] at e2
  rw [e2, List.set_eq_take_append_cons_drop, if_pos hk]
theorem putD_ins {ds : List Dn} {d : Dn} {k : Nat} (hM : DnsMay ds) (hP : Pl ds.length (fun j => decide ((ds.getD j dn0).cl < d.cl)) k) (hn : ¬ (k < ds.length ∧ (ds.getD k dn0).cl = d.cl)) : putD ds d = ds.take k ++ d :: ds.drop k := by
  have e2 : putD (ds.take k ++ ([] ++ ds.drop k)) d = ds.take k ++ d :: ds.drop k := by
    refine putD_split (fun l hl => ?_) (fun l hl => by simp at hl) (fun l hl => ?_)
    · obtain ⟨i, h1, h2, rfl⟩ := dtake_mem hl
      exact of_decide_eq_true (hP.2.1 i h1)
    · obtain ⟨i, h1, h2, rfl⟩ := ddrop_mem hl
      have h3 := of_decide_eq_false (hP.2.2 i h1 h2)
      by_cases e : i = k
      · subst e
        have : ¬ (ds.getD i dn0).cl = d.cl := fun h => hn ⟨h2, h⟩
        omega
      · have h6 := dns_lt hM k i (by omega) h2
        have h7 := of_decide_eq_false (hP.2.2 k (Nat.le_refl _) (by omega))
        omega
  simpa using e2
theorem done_at {ds : List Dn} (hM : DnsMay ds) {i k : Nat} (hi : i < ds.length) (hP : Pl ds.length (fun j => decide ((ds.getD j dn0).cl < (ds.getD i dn0).cl)) k) : k = i := by
  by_cases h1 : i < k
  · have := of_decide_eq_true (hP.2.1 i h1)
    omega
  · by_cases h2 : i = k
    · omega
    · have h3 := dns_lt hM k i (by omega) hi
      have h4 := of_decide_eq_false (hP.2.2 k (Nat.le_refl _) (by omega))
      omega
set_option maxHeartbeats 4000000 in
set_option maxRecDepth 60000 in
theorem re_3 (t1 t2 t5 t6 t7 t8 t9 t10 t11 t12 t13 t14 t15 t16 t17 t18 t19 t20 t21 t22 t23 t24 t25 t26 t27 t28 t29 t30 t31 t32 t33 t34 t35 t36 t37 t38 t39 t40 t41 t42 t43 t44 t45 t46 : Value) (p db g k N dc : Nat) (cl id cd nn : Int) (hs : Bool) (v0 v1 v2 v3 v4 : Value) (w1 : World) (Q : Exit → Act → World → Prop)
    (h0 : w1.cell? ⟨p, 1, none⟩ = some (.slice (some ⟨g, 0, none⟩) N dc)) (hbx : Bx5 w1 db 51 (.int .i64 cl) (.int .i64 id) (.int .i64 cd) (.bool hs) (.int .i64 nn)) (hk0 : (0 : Int) ≤ (k : Int)) (hkN : (k : Int) < (N : Int)) (k0 : w1.cell? ⟨g, k * 5, none⟩ = some v0) (f0 : w1.frozen? ⟨g, k * 5, none⟩ = false) (k1 : w1.cell? ⟨g, k * 5 + 1, none⟩ = some v1) (f1 : w1.frozen? ⟨g, k * 5 + 1, none⟩ = false) (k2 : w1.cell? ⟨g, k * 5 + 2, none⟩ = some v2) (f2 : w1.frozen? ⟨g, k * 5 + 2, none⟩ = false) (k3 : w1.cell? ⟨g, k * 5 + 3, none⟩ = some v3) (f3 : w1.frozen? ⟨g, k * 5 + 3, none⟩ = false) (k4 : w1.cell? ⟨g, k * 5 + 4, none⟩ = some v4) (f4 : w1.frozen? ⟨g, k * 5 + 4, none⟩ = false)
    (hQ : Hid (∀ (u14 u15 u16 u17 u18 u19 u20 : Value) (wC : World), wC = setD5 w1.drew g (k * 5) ⟨cl, id, ⟨cd, hs, nn⟩⟩ → Q .normal ⟨#[.pointer (some ⟨p, 0, none⟩), t1, t2, .pointer (some ⟨db, 0, none⟩), .int .i64 (k : Int), t5, t6, t7, t8, t9, t10, t11, t12, t13, u14, u15, u16, u17, u18, u19, u20, t21, t22, t23, t24, t25, t26, t27, t28, t29, t30, t31, t32, t33, t34, t35, t36, t37, t38, t39, t40, t41, t42, t43, t44, t45, t46], []⟩ wC)) :
    Code.wp Tryz.prog ((Tryz.f48.body.bind (regionOf 3)).getD .skip) Q ⟨#[.pointer (some ⟨p, 0, none⟩), t1, t2, .pointer (some ⟨db, 0, none⟩), .int .i64 (k : Int), t5, t6, t7, t8, t9, t10, t11, t12, t13, t14, t15, t16, t17, t18, t19, t20, t21, t22, t23, t24, t25, t26, t27, t28, t29, t30, t31, t32, t33, t34, t35, t36, t37, t38, t39, t40, t41, t42, t43, t44, t45, t46], []⟩ w1 := by
  have hS : (fun w' => w'.cell? ⟨p, 1, none⟩ = some (.slice (some ⟨g, 0, none⟩) N dc) ∧ Bx5 w' db 51 (.int .i64 cl) (.int .i64 id) (.int .i64 cd) (.bool hs) (.int .i64 nn)) w1.drew := ⟨h0, hbx⟩
  conv => arg 2; whnf
  refine wp_region_but (S := fun w' => w'.cell? ⟨p, 1, none⟩ = some (.slice (some ⟨g, 0, none⟩) N dc) ∧ Bx5 w' db 51 (.int .i64 cl) (.int .i64 id) (.int .i64 cd) (.bool hs) (.int .i64 nn)) (n := 7) mixed9 ?_
  refine but_take (i := 0) (v := .pointer (some ⟨p, 0, none⟩)) rfl (by kernel_rfl) (fun _ _ _ h => h) (.inl ⟨rfl, fun w hS => ?_⟩) hS ?_
  · obtain ⟨q0, q1⟩ := hS
    go_simp
  try simp only [Act.put, List.setIfInBounds_toArray, List.set_cons_zero, List.set_cons_succ]
  refine but_take (i := 1) (v := .pointer (some ⟨p, 0, none⟩)) rfl (by kernel_rfl) (fun _ _ _ h => h) (.inl ⟨rfl, fun w hS => ?_⟩) hS ?_
  · obtain ⟨q0, q1⟩ := hS
    go_simp
  try simp only [Act.put, List.setIfInBounds_toArray, List.set_cons_zero, List.set_cons_succ]
  refine but_take (i := 2) (v := .pointer (some ⟨p, 1, none⟩)) rfl (by kernel_rfl) (fun _ _ _ h => h) (.inl ⟨rfl, fun w hS => ?_⟩) hS ?_
  · obtain ⟨q0, q1⟩ := hS
    go_simp
  try simp only [Act.put, List.setIfInBounds_toArray, List.set_cons_zero, List.set_cons_succ]
  refine but_take (i := 3) (v := .slice (some ⟨g, 0, none⟩) N dc) rfl (by kernel_rfl) (fun _ _ _ h => h) (.inl ⟨rfl, fun w hS => ?_⟩) hS ?_
  · obtain ⟨q0, q1⟩ := hS
    go_simp
  try simp only [Act.put, List.setIfInBounds_toArray, List.set_cons_zero, List.set_cons_succ]
  refine but_take (i := 4) (v := .int .i64 (k : Int)) rfl (by kernel_rfl) (fun _ _ _ h => h) (.inl ⟨rfl, fun w hS => ?_⟩) hS ?_
  · obtain ⟨q0, q1⟩ := hS
    go_simp
  try simp only [Act.put, List.setIfInBounds_toArray, List.set_cons_zero, List.set_cons_succ]
  refine but_take (i := 5) (v := .agg #[.int .i64 cl, .int .i64 id, .int .i64 cd, .bool hs, .int .i64 nn]) rfl (by kernel_rfl) (fun _ _ _ h => h) (.inl ⟨rfl, fun w hS => ?_⟩) hS ?_
  · obtain ⟨q0, q1⟩ := hS
    obtain ⟨c0, c1, c2, c3, c4⟩ := q1.cells
    go_simp
  try simp only [Act.put, List.setIfInBounds_toArray, List.set_cons_zero, List.set_cons_succ]
  refine but_take (i := 6) (v := .pointer (some ⟨g, k * 5, none⟩)) rfl (by kernel_rfl) (fun _ _ _ h => h) (.inl ⟨rfl, fun w hS => ?_⟩) hS ?_
  · obtain ⟨q0, q1⟩ := hS
    go_simp
  try simp only [Act.put, List.setIfInBounds_toArray, List.set_cons_zero, List.set_cons_succ]
  refine but_one (i := 7) (by kernel_rfl) rfl rfl ?_
  intro K hK
  go_simp
  show K _ (setD5 w1.drew g (k * 5) ⟨cl, id, ⟨cd, hs, nn⟩⟩)
  refine hK.out _ _ (fun h => absurd rfl h) ?_
  clear hK
  try simp only [Act.put, List.setIfInBounds_toArray, List.set_cons_zero, List.set_cons_succ]
  refine AnyBut.done (by kernel_rfl) ?_ _
  refine NoPanic.normal ?_
  exact hQ.out _ _ _ _ _ _ _ _ rfl
set_option maxHeartbeats 4000000 in
set_option maxRecDepth 60000 in
theorem re_7 (t1 t2 t5 t6 t7 t8 t9 t10 t11 t12 t13 t14 t15 t16 t17 t18 t19 t20 t21 t22 t23 t24 t25 t26 t27 t28 t29 t30 t31 t32 t33 t34 t35 t36 t37 t38 t39 t40 t41 t42 t43 t44 t45 t46 : Value) (p db k N dc : Nat) (da : Option Addr) (cl id cd nn : Int) (hs : Bool) (R : Nat → Nat → World → Prop) (w1 : World) (Q : Exit → Act → World → Prop)
    (h0 : w1.cell? ⟨p, 1, none⟩ = some (.slice da N dc)) (h1 : w1.frozen? ⟨p, 1, none⟩ = false) (hbx : Bx5 w1 db 51 (.int .i64 cl) (.int .i64 id) (.int .i64 cd) (.bool hs) (.int .i64 nn)) (HP : Hid (Calls Tryz.prog 70 #[.slice da N dc, .int .i64 (k : Int), .slice (some ⟨w1.heap.size, 0, none⟩) 1 1] (w1.drew.alloc (.cells #[.int .i64 cl, .int .i64 id, .int .i64 cd, .bool hs, .int .i64 nn] 51)) fun e w' => ∃ g c, e = .returned (.slice (some ⟨g, 0, none⟩) (N + 1) c) ∧ R g c w' ∧ (fun w' => w'.cell? ⟨p, 1, none⟩ = some (.slice da N dc) ∧ w'.frozen? ⟨p, 1, none⟩ = false ∧ Bx5 w' db 51 (.int .i64 cl) (.int .i64 id) (.int .i64 cd) (.bool hs) (.int .i64 nn)) w'))
    (hQ : Hid (∀ (u36 u37 u38 u39 u40 u41 u42 u43 u44 u45 u46 : Value) (g c : Nat) (w2 wC : World), R g c w2 → wC = w2.setCell ⟨p, 1, none⟩ (.slice (some ⟨g, 0, none⟩) (N + 1) c) → Q .normal ⟨#[.pointer (some ⟨p, 0, none⟩), t1, t2, .pointer (some ⟨db, 0, none⟩), .int .i64 (k : Int), t5, t6, t7, t8, t9, t10, t11, t12, t13, t14, t15, t16, t17, t18, t19, t20, t21, t22, t23, t24, t25, t26, t27, t28, t29, t30, t31, t32, t33, t34, t35, u36, u37, u38, u39, u40, u41, u42, u43, u44, u45, u46], []⟩ wC)) :
    Code.wp Tryz.prog ((Tryz.f48.body.bind (regionOf 7)).getD .skip) Q ⟨#[.pointer (some ⟨p, 0, none⟩), t1, t2, .pointer (some ⟨db, 0, none⟩), .int .i64 (k : Int), t5, t6, t7, t8, t9, t10, t11, t12, t13, t14, t15, t16, t17, t18, t19, t20, t21, t22, t23, t24, t25, t26, t27, t28, t29, t30, t31, t32, t33, t34, t35, t36, t37, t38, t39, t40, t41, t42, t43, t44, t45, t46], []⟩ w1 := by
  have hS : (fun w' => w'.cell? ⟨p, 1, none⟩ = some (.slice da N dc) ∧ w'.frozen? ⟨p, 1, none⟩ = false ∧ Bx5 w' db 51 (.int .i64 cl) (.int .i64 id) (.int .i64 cd) (.bool hs) (.int .i64 nn)) w1.drew := ⟨h0, h1, hbx⟩
  conv => arg 2; whnf
  refine wp_region_but (S := fun w' => w'.cell? ⟨p, 1, none⟩ = some (.slice da N dc) ∧ w'.frozen? ⟨p, 1, none⟩ = false ∧ Bx5 w' db 51 (.int .i64 cl) (.int .i64 id) (.int .i64 cd) (.bool hs) (.int .i64 nn)) (n := 11) mixed9 ?_
  refine but_take (i := 0) (v := .pointer (some ⟨p, 0, none⟩)) rfl (by kernel_rfl) (fun _ _ _ h => h) (.inl ⟨rfl, fun w hS => ?_⟩) hS ?_
  · obtain ⟨q0, -, q1⟩ := hS
    go_simp
  try simp only [Act.put, List.setIfInBounds_toArray, List.set_cons_zero, List.set_cons_succ]
  refine but_take (i := 1) (v := .pointer (some ⟨p, 0, none⟩)) rfl (by kernel_rfl) (fun _ _ _ h => h) (.inl ⟨rfl, fun w hS => ?_⟩) hS ?_
  · obtain ⟨q0, -, q1⟩ := hS
    go_simp
  try simp only [Act.put, List.setIfInBounds_toArray, List.set_cons_zero, List.set_cons_succ]
  refine but_take (i := 2) (v := .pointer (some ⟨p, 0, none⟩)) rfl (by kernel_rfl) (fun _ _ _ h => h) (.inl ⟨rfl, fun w hS => ?_⟩) hS ?_
  · obtain ⟨q0, -, q1⟩ := hS
    go_simp
  try simp only [Act.put, List.setIfInBounds_toArray, List.set_cons_zero, List.set_cons_succ]
  refine but_take (i := 3) (v := .pointer (some ⟨p, 1, none⟩)) rfl (by kernel_rfl) (fun _ _ _ h => h) (.inl ⟨rfl, fun w hS => ?_⟩) hS ?_
  · obtain ⟨q0, -, q1⟩ := hS
    go_simp
  try simp only [Act.put, List.setIfInBounds_toArray, List.set_cons_zero, List.set_cons_succ]
  refine but_take (i := 4) (v := .slice da N dc) rfl (by kernel_rfl) (fun _ _ _ h => h) (.inl ⟨rfl, fun w hS => ?_⟩) hS ?_
  · obtain ⟨q0, -, q1⟩ := hS
    go_simp
  try simp only [Act.put, List.setIfInBounds_toArray, List.set_cons_zero, List.set_cons_succ]
  refine but_take (i := 5) (v := .int .i64 (k : Int)) rfl (by kernel_rfl) (fun _ _ _ h => h) (.inl ⟨rfl, fun w hS => ?_⟩) hS ?_
  · obtain ⟨q0, -, q1⟩ := hS
    go_simp
  try simp only [Act.put, List.setIfInBounds_toArray, List.set_cons_zero, List.set_cons_succ]
  refine but_take (i := 6) (v := .agg #[.int .i64 cl, .int .i64 id, .int .i64 cd, .bool hs, .int .i64 nn]) rfl (by kernel_rfl) (fun _ _ _ h => h) (.inl ⟨rfl, fun w hS => ?_⟩) hS ?_
  · obtain ⟨q0, -, q1⟩ := hS
    obtain ⟨c0, c1, c2, c3, c4⟩ := q1.cells
    go_simp
  try simp only [Act.put, List.setIfInBounds_toArray, List.set_cons_zero, List.set_cons_succ]
  refine but_one (i := 7) (by kernel_rfl) rfl rfl ?_
  intro K hK
  go_simp
  have hN : (fun w' => w'.cell? ⟨p, 1, none⟩ = some (.slice da N dc) ∧ w'.frozen? ⟨p, 1, none⟩ = false ∧ Bx5 w' db 51 (.int .i64 cl) (.int .i64 id) (.int .i64 cd) (.bool hs) (.int .i64 nn)) (w1.drew.alloc (.cells #[.int .i64 cl, .int .i64 id, .int .i64 cd, .bool hs, .int .i64 nn] 51)) := ⟨kept3 hS.1 (below_alloc _ _), frz_kept hS.1 hS.2.1 (below_alloc _ _), hS.2.2.below (below_alloc _ _)⟩
  refine hK.out _ _ (fun _ => hN) ?_
  have hS9 := hN
  clear hK hS
  have hS := hS9
  clear hS9
  try simp only [Act.put, List.setIfInBounds_toArray, List.set_cons_zero, List.set_cons_succ]
  refine but_one (i := 8) (by kernel_rfl) rfl rfl ?_
  intro K hK
  go_simp
  go_at_call 70
  refine (HP.out).mono ?_
  rintro e w2 ⟨g, c, rfl, hR, hS2⟩
  refine hK.out _ _ (fun _ => hS2) ?_
  have hS9 := hS2
  clear hK hS
  have hS := hS9
  clear hS9
  try simp only [Act.put, List.setIfInBounds_toArray, List.set_cons_zero, List.set_cons_succ]
  refine but_take (i := 9) (v := .pointer (some ⟨p, 0, none⟩)) rfl (by kernel_rfl) (fun _ _ _ h => h) (.inl ⟨rfl, fun w hS => ?_⟩) hS ?_
  · obtain ⟨q0, -, q1⟩ := hS
    go_simp
  try simp only [Act.put, List.setIfInBounds_toArray, List.set_cons_zero, List.set_cons_succ]
  refine but_take (i := 10) (v := .pointer (some ⟨p, 1, none⟩)) rfl (by kernel_rfl) (fun _ _ _ h => h) (.inl ⟨rfl, fun w hS => ?_⟩) hS ?_
  · obtain ⟨q0, -, q1⟩ := hS
    go_simp
  try simp only [Act.put, List.setIfInBounds_toArray, List.set_cons_zero, List.set_cons_succ]
  refine but_one (i := 11) (by kernel_rfl) rfl rfl ?_
  intro K hK
  obtain ⟨q0, q1, -⟩ := hS
  go_simp
  refine hK.out _ _ (fun h => absurd rfl h) ?_
  clear hK
  try simp only [Act.put, List.setIfInBounds_toArray, List.set_cons_zero, List.set_cons_succ]
  refine AnyBut.done (by kernel_rfl) ?_ _
  refine NoPanic.normal ?_
  exact hQ.out _ _ _ _ _ _ _ _ _ _ _ g c w2 _ hR rfl
end Go.Proofs.YtihohcmocejijaaGreat.Bk
