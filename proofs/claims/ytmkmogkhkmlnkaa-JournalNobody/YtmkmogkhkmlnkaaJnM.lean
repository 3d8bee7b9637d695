/-
  Records, Left.
-/
import Derived.Test.YtmkmogkhkmlnkaaJnL
import Derived.Test.YtmkmogkhkmlnkaaJnI
import Derived.Test.YtmkmogkhkmlnkaaJnD
namespace Go.Proofs.Ytmkmogkhkmlnkaa.Dm
open Go.ChangeShapes Go.WideShapes Go.ChangeAt Go.RowKit
theorem frA_pos (g : Nat) (d : Fr.Dat) : 0 < (frA g d).length := Fr.frD_pos _
theorem frA_free {g : Nat} {d d' : Fr.Dat} {r r' : List UInt8} (h : frA g d ++ r = frA g d' ++ r') : d = d' ∧ r = r' := by
  obtain ⟨h1, h2⟩ := Fr.frD_free h
  have h3 := congrArg Prod.fst h1
  have h4 := congrArg Prod.snd h1
  exact ⟨Prod.ext h3 (List.cons.inj h4).2, h2⟩
theorem unIs_fn {g : Nat} : ∀ {ds ds' : List Fr.Dat} {l : List UInt8} {s s' : Nat}, UnIs l g ds s → UnIs l g ds' s' → ds = ds' := by
  intro ds
  induction ds with
  | nil =>
    intro ds' l s s' h h'
    cases ds' with
    | nil => rfl
    | cons d' ds' =>
      obtain ⟨-, r, e, -, hno⟩ := h
      obtain ⟨hok, r', e', -, -⟩ := h'
      exact absurd (show r = frA g d' ++ (flatA g ds' ++ r') by rw [e, flatA_cons, List.append_assoc] at e'; simpa [flatA] using e') (hno d' _ (hok d' (List.mem_cons_self ..)))
  | cons d ds ih =>
    intro ds' l s s' h h'
    obtain ⟨hok, r, e, -, hno⟩ := h
    obtain ⟨hok', r', e', -, hno'⟩ := h'
    cases ds' with
    | nil => exact absurd (show r' = frA g d ++ (flatA g ds ++ r) by rw [e', flatA_cons, List.append_assoc] at e; simpa [flatA] using e) (hno' d _ (hok d (List.mem_cons_self ..)))
    | cons d' ds' =>
      rw [e', flatA_cons, flatA_cons, List.append_assoc, List.append_assoc] at e
      obtain ⟨rfl, e2⟩ := frA_free e
      rw [ih (l := flatA g ds ++ r) (s := (flatA g ds).length) (s' := (flatA g ds').length) ⟨fun x hx => hok x (List.mem_cons_of_mem _ hx), r, rfl, rfl, hno⟩ ⟨fun x hx => hok' x (List.mem_cons_of_mem _ hx), r', e2.symm, rfl, hno'⟩]
theorem unIs_all {g : Nat} {ds : List Fr.Dat} (h : ∀ d ∈ ds, OkA g d) : UnIs (flatA g ds) g ds (flatA g ds).length := ⟨h, [], by simp, rfl, fun d r' _ e => by
  have := congrArg List.length e
  rw [List.length_append] at this
  have := frA_pos g d
  simp at *
  omega⟩
/-- a list of data in rows of one's own -/
def RecAt (N : Nat) (w : World) (v : Value) (ds : List Fr.Dat) : Prop := ∃ ps : List (Value × Value), w.ownsRow N 38 2 v ds.length (Fr.flatP ps) ∧ ps.length = ds.length ∧ (∀ i (h : i < ps.length), Fr.DataAt w (.agg #[ps[i].1, ps[i].2]) (ds.getD i ([], [])).1 (ds.getD i ([], [])).2) ∧ Tags w ps
theorem RecAt.drow {N : Nat} {w : World} {v : Value} {ds : List Fr.Dat} (h : RecAt N w v ds) : ∃ a cap, v = .slice a ds.length cap ∧ Fr.DRow w a ds.length cap ds := by
  obtain ⟨ps, h, hpl, hall, -⟩ := h
  have hown := h
  obtain ⟨hl, ⟨rfl, h0⟩ | ⟨g, cap, cur, rfl, hg, hh, hc, hcm, hcs, ht⟩⟩ := h
  · exact ⟨none, 0, by rw [h0], rfl, by omega, Nat.zero_le _, .inl h0⟩
  · refine ⟨some ⟨g, 0, none⟩, cap, rfl, rfl, hc, hcm, .inr ⟨g, 0, rfl, fun i hi => ?_⟩⟩
    have hi' : i < ps.length := by omega
    obtain ⟨e0, e1⟩ := Fr.flatP_get ps i hi'
    have hda := hall i hi'
    obtain ⟨a1, n1, c1, a2, n2, c2, e, _⟩ := hda
    simp at e
    refine ⟨a1, n1, c1, a2, n2, c2, ?_, ?_, ?_⟩
    · rw [Nat.zero_add, hown.cellAt (i * 2) (by omega), e0, e.1]
    · rw [Nat.zero_add, hown.cellAt (i * 2 + 1) (by omega), e1, e.2]
    · have := hall i hi'
      rw [e.1, e.2] at this
      exact this
theorem data_kj {w w' : World} {v : Value} {x : List Int} {y : List ByteArray} (h : Fr.DataAt w v x y) (ht : Fr.TagD w v) (hk : Kj w w') : Fr.DataAt w' v x y := by
  obtain ⟨a1, n1, c1, a2, n2, c2, rfl, h1, h2, h3, h4⟩ := h
  obtain ⟨b1, m1, d1, b2, m2, d2, e, f1, f2⟩ := ht
  simp at e
  obtain ⟨⟨rfl, rfl, rfl⟩, rfl, rfl, rfl⟩ := e
  refine ⟨_, _, _, _, _, _, rfl, Fr.row_stab h1 fun x hx _ => ?_, Fr.row_stab h2 fun x hx _ => ?_, h3, h4⟩
  · obtain ⟨c, hc⟩ := f1 x hx
    exact (hk _ _ _ _ hc (by decide) (by decide) (by decide) (by decide)).trans hc.symm
  · obtain ⟨c, hc⟩ := f2 x hx
    exact (hk _ _ _ _ hc (by decide) (by decide) (by decide) (by decide)).trans hc.symm
theorem RecAt.kj {N : Nat} {w w' : World} {v : Value} {ds : List Fr.Dat} (h : RecAt N w v ds) (hk : Kj w w') : RecAt N w' v ds := by
  obtain ⟨ps, h1, h2, h3, h4⟩ := h
  refine ⟨ps, own_of h1 fun g hg => ?_, h2, fun i hi => data_kj (h3 i hi) (h4 _ (List.getElem_mem hi)) hk, fun p hp => (h4 p hp).keep fun b c T hc hT => ⟨c, hk _ _ _ _ hc ?_ ?_ ?_ ?_⟩⟩
  · obtain ⟨cur, hc⟩ := own_T h1 hg
    exact (hk _ _ _ _ hc (by decide) (by decide) (by decide) (by decide)).trans hc.symm
  all_goals (rcases hT with rfl | rfl <;> decide)
theorem RecAt.below {N : Nat} {w w' : World} {v : Value} {ds : List Fr.Dat} (h : RecAt N w v ds) (hb : Below w.heap.size w w') : RecAt N w' v ds := h.kj (Kj.below hb)
theorem RecAt.low {N N' : Nat} {w : World} {v : Value} {ds : List Fr.Dat} (h : RecAt N w v ds) (hN : N' ≤ N) : RecAt N' w v ds := by
  obtain ⟨ps, h1, h2, h3, h4⟩ := h
  exact ⟨ps, Fr.own_mono h1 hN, h2, h3, h4⟩
set_option maxHeartbeats 4000000 in
theorem records_any {B j a s k n : Nat} {D : Dm} {pv : Value} {J : Jr} {fv : Value} (w : World) (h : JW B j a s k n D pv J fv w) (ds : List Fr.Dat) (hfr : J.fr = flatA J.age ds) (hok : ∀ d ∈ ds, OkA J.age d) (hg : (J.age : Int) ≤ 2147483647) (hl : (J.fr.length : Int) ≤ 300000) :
    Calls Try.prog 12 #[.pointer (some ⟨j, 0, none⟩)] w fun e w' => ∃ v, e = .returned v ∧ RecAt w.heap.size w' v ds ∧ Below w.heap.size w w' := by
  obtain ⟨fa, fc, rfl, hrow, -⟩ := Fr.RowAt.of_own h.r.own
  have HG := given_any w h.r
  have HK : Hid (∀ w', Below w.heap.size w w' → (w'.cell? ⟨j, 2, none⟩ = some (.int .i64 (J.age : Int)) ∧ w'.cell? ⟨j, 3, none⟩ = some (.slice fa J.fr.length fc)) ∧ Below w.heap.size w w') := fun w' hb => ⟨⟨(h.below hb).r.c2, (h.below hb).r.c3⟩, hb⟩
  have HU : Hid (∀ w', Below w.heap.size w w' → Calls Try.prog 31 #[.slice fa J.fr.length fc, .int .i64 (J.age : Int)] w' fun en w'' => ∃ v, ∃ m : Nat, en = .returned (.tuple #[v, .int .i64 (m : Int)]) ∧ Hid (RecAt w.heap.size w'' v ds ∧ Below w'.heap.size w' w'')) := fun w' hb => by
    refine (unframed_any _ _ _ _ w' (hrow.below hb) hl _ hg).mono ?_
    rintro en w'' ⟨hb2, v, ps, ds', m, rfl, h1, h2, h3, h4⟩
    rw [hfr] at h3
    obtain rfl := unIs_fn h3 (unIs_all hok)
    obtain ⟨q1, q2⟩ := h2.at
    exact ⟨v, m, rfl, ⟨ps, Fr.own_mono h1 hb.size, q1, q2, h4⟩, hb2⟩
  clear h hrow hfr hok hl hg
  generalize J.fr.length = N at *
  go_enter Try.func12, Try.ntmps12
  go_upto_region 3 with (go_at_call 23; refine HG.mono ?_; rintro e w1 ⟨rfl, rfl⟩)
  go_region_held3 (fun w' => (w'.cell? ⟨j, 2, none⟩ = some (.int .i64 (J.age : Int)) ∧ w'.cell? ⟨j, 3, none⟩ = some (.slice fa N fc)) ∧ Below w1.heap.size w1 w')
    (first | exact HK.out _ (below_drew _) | exact HK.out _ (below2 (below_drew _) H7.out.2))
    ((first | (go_at_call 31; refine (HU.out _ (by go_split_ands; assumption)).mono ?_; rintro en w7 ⟨v7, m, rfl, H7⟩)))
  clear HU HK
  go_wp2
  go_ret
  exact ⟨_, rfl, H7.out.1, below2 (below_drew _) H7.out.2⟩
set_option maxHeartbeats 4000000 in
theorem left_any {B j a s k n : Nat} {D : Dm} {pv : Value} {J : Jr} {fv : Value} (w : World) (h : JW B j a s k n D pv J fv w) (h8 : 8 ≤ (n : Int)) (hl : J.fr.length ≤ roomN n) :
    Calls Try.prog 17 #[.pointer (some ⟨j, 0, none⟩)] w fun e w' => e = .returned (.int .i64 ((roomN n : Nat) - (J.fr.length : Nat))) ∧ Below w.heap.size w w' := by
  obtain ⟨fa, fc, rfl, hrow, -⟩ := Fr.RowAt.of_own h.r.own
  have HG := given_any w h.r
  have hr := roomN_le h.d.ok.n1
  have HK : Hid (∀ w', Below w.heap.size w w' → (w'.cell? ⟨j, 0, none⟩ = some (.pointer (some ⟨a, 0, none⟩)) ∧ w'.cell? ⟨j, 3, none⟩ = some (.slice fa J.fr.length fc)) ∧ Below w.heap.size w w') := fun w' hb => ⟨⟨(h.below hb).r.c0, (h.below hb).r.c3⟩, hb⟩
  have HU : Hid (∀ w', Below w.heap.size w w' → Calls Try.prog 33 #[.pointer (some ⟨a, 0, none⟩)] w' fun e w'' => e = .returned (.int .i64 (roomN n : Nat)) ∧ w'' = w') := fun w' hb => rowBytes_any w' (h.below hb).d h8
  have x0 : IntKind.i64.wrap (((roomN n : Nat) : Int) - (J.fr.length : Nat)) = ((roomN n : Nat) : Int) - (J.fr.length : Nat) := by rw [IntKind.wrap_i64]; omega
  clear h hrow hl hr
  generalize J.fr.length = N at *
  generalize roomN n = R at *
  go_enter Try.func17, Try.ntmps17
  go_upto_region 3 with (go_at_call 23; refine HG.mono ?_; rintro e w1 ⟨rfl, rfl⟩)
  go_region_held3 (fun w' => (w'.cell? ⟨j, 0, none⟩ = some (.pointer (some ⟨a, 0, none⟩)) ∧ w'.cell? ⟨j, 3, none⟩ = some (.slice fa N fc)) ∧ Below w1.heap.size w1 w')
    (first | exact HK.out _ (below_drew _) | assumption)
    ((first | (go_at_call 33; refine (HU.out _ (by go_split_ands; assumption)).mono ?_; rintro en w7 ⟨rfl, rfl⟩)))
  clear HU HK
  go_wp2
  go_ret
  exact ⟨rfl, below_drew _⟩
end Go.Proofs.Ytmkmogkhkmlnkaa.Dm
