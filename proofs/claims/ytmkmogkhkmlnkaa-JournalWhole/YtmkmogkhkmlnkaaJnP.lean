/-
  Open: a drum's journal.
-/
import Derived.Test.YtmkmogkhkmlnkaaJnO
namespace Go.Proofs.Ytmkmogkhkmlnkaa.Dm
open Go.ChangeShapes Go.WideShapes Go.ChangeAt Go.RowKit
/-- what stands on a drum -/
def StIs (n : Nat) (S : List UInt8) (J : Jr) (ds : List Fr.Dat) : Prop := ∃ e, FdIs n S J.second J.age e ∧ UnIs ((rowOf n S J.second).take e) J.age ds J.fr.length ∧ J.fr = flatA J.age ds ∧ J.fr.length ≤ roomN n
theorem okA_texts {g : Nat} {d : Fr.Dat} (h : OkA g d) : ((d.2.length : Nat) : Int) ≤ 100000 := by
  have h1 : (Fr.bytesL d.1 (txtA g :: d.2)).length ≤ 4096 := h.2
  have h2 := Fr.textsL_len (txtA g :: d.2)
  unfold Fr.bytesL at h1
  simp only [List.length_append, List.length_cons] at h1 h2
  omega
theorem fourL_len (g : Nat) : (Fr.textL (txtA g)).length = 5 := by
  unfold Fr.textL
  rw [txtA_size, List.length_append, Fr.countL_small 4 (by decide)]
  unfold txtA
  rw [Fr.txt_list]
  rfl
theorem bytesA_len (g g' : Nat) (d : Fr.Dat) : (Fr.bytesL d.1 (txtA g :: d.2)).length = (Fr.bytesL d.1 (txtA g' :: d.2)).length := by
  unfold Fr.bytesL
  simp only [List.length_append, List.length_cons, Fr.textsL_cons, fourL_len]
theorem frA_len (g g' : Nat) (d : Fr.Dat) : (frA g d).length = (frA g' d).length := by
  unfold frA Fr.frD Fr.frameL
  simp only [List.length_append, Fr.fourL_length, bytesA_len g g' d]
theorem okA_age {g : Nat} (g' : Nat) {d : Fr.Dat} (h : OkA g d) : OkA g' d := by
  obtain ⟨⟨h1, h2⟩, h3⟩ := h
  refine ⟨⟨h1, fun t ht => ?_⟩, ?_⟩
  · rcases List.mem_cons.1 ht with rfl | ht
    · rw [txtA_size]; decide
    · exact h2 t (List.mem_cons_of_mem _ ht)
  · show (Fr.bytesL d.1 (txtA g' :: d.2)).length ≤ 4096
    rw [bytesA_len g' g d]
    exact h3
theorem flatA_len (g g' : Nat) (ds : List Fr.Dat) : (flatA g ds).length = (flatA g' ds).length := by
  induction ds with
  | nil => rfl
  | cons d ds ih => rw [flatA_cons, flatA_cons, List.length_append, List.length_append, ih, frA_len g g' d]
theorem len_flatA (g : Nat) (ds : List Fr.Dat) : ds.length ≤ (flatA g ds).length := by
  induction ds with
  | nil => exact Nat.zero_le _
  | cons d ds ih =>
    have := frA_pos g d
    rw [flatA_cons, List.length_append, List.length_cons]
    omega
/-- behind Open -/
def OpPost (B a s k n : Nat) (D : Dm) (w w' : World) (e : Ending) : Prop := ∃ j J ds, e = .returned (.tuple #[.pointer (some ⟨j, 0, none⟩), .int .i64 0]) ∧ StIs n D.seen J ds ∧ JPost B j a s k n (anewD n D J ds) (anewJ J ds) w w'
theorem StIs.fit {n : Nat} {S : List UInt8} {J : Jr} {ds : List Fr.Dat} (h : StIs n S J ds) : FitA (J.age + 1) (roomN n) ds := by
  obtain ⟨e, -, h2, h3, h4⟩ := h
  refine ⟨fun d hd => okA_age _ (h2.1 d hd), ?_⟩
  rw [flatA_len (J.age + 1) J.age, ← h3]
  exact h4
set_option maxHeartbeats 8000000 in
set_option maxRecDepth 60000 in
theorem open_any {B a s k n : Nat} {D : Dm} {pv : Value} (w : World) (h : DmAt B a s k n D pv w) (h8 : 8 ≤ (n : Int)) (hp : (D.pend.length : Int) ≤ 70000) (hg : ∀ J ds, StIs n D.seen J ds → (J.age : Int) < 2147483647) :
    Calls Try.prog 6 #[.pointer (some ⟨a, 0, none⟩)] w fun e w' => OpPost B a s k n D w w' e := by
  have hr := roomN_le h.ok.n1
  have HS := sectors_any w h
  have HF := found_any w h h8
  have hn0 : ((n : Int) == 0) = false := by simp; omega
  have HH : Hid (DmAt B a s k n D pv w) := h
  have HP : Hid ((D.pend.length : Int) ≤ 70000) := hp
  have HG : Hid (∀ J ds, StIs n D.seen J ds → (J.age : Int) < 2147483647) := hg
  have HF2 : Calls Try.prog 21 #[.pointer (some ⟨a, 0, none⟩)] w fun en w' => ∃ j, en = .returned (.pointer (some ⟨j, 0, none⟩)) ∧ Hid (∃ fv J ds, JW B j a s k n D pv J fv w' ∧ StIs n D.seen J ds ∧ (J.fr.length : Int) ≤ 300000 ∧ Below w.heap.size w w') := by
    refine HF.mono ?_
    rintro en w' ⟨hb, j, fv, J, e, ds, rfl, h1, h2, h3, h4, h5⟩
    refine ⟨j, rfl, fv, J, ds, ⟨HH.out.below hb, ⟨Nat.le_trans HH.out.low h1.bj, h1.box, Fr.own_mono h1.own HH.out.low⟩, fun g hg' => ?_⟩, ⟨e, h2, h3, h4, h5⟩, by omega, hb⟩
    have := (h1.own.lt g hg').1
    have := HH.out.lt (.inr (.inl rfl))
    have := HH.out.lt (.inr (.inr (.inl rfl)))
    omega
  clear h hp hg hr HF
  go_enter Try.func6, Try.ntmps6
  go_upto_region 4 with (first | (go_at_call 20; refine HS.mono ?_; rintro en w1 ⟨rfl, rfl⟩) | (go_at_call 21; refine HF2.mono ?_; rintro en w2 ⟨j, rfl, HJ⟩))
  obtain ⟨fv, J, ds, hJ, hst, hl3, hb2⟩ := HJ.out
  have hage := HG.out J ds hst
  have hst' := hst
  obtain ⟨e, -, hun, hfr, hfl⟩ := hst'
  have HRC := records_any w2 hJ ds hfr hun.1 (by omega) hl3
  have hlen : ds.length ≤ 300000 := by have := len_flatA J.age ds; rw [← hfr] at this; omega
  have HAN : Hid (∀ w' v, RecAt w2.heap.size w' v ds → Below w2.heap.size w2 w' → ∃ la cap, v = .slice la ds.length cap ∧ Calls Try.prog 13 #[.pointer (some ⟨j, 0, none⟩), .slice la ds.length cap] w' fun e w'' => e = .returned (.int .i64 0) ∧ Hid (JPost B j a s k n (anewD n D J ds) (anewJ J ds) w' w'')) := fun w' v hrec hb => by
    obtain ⟨la, cap, rfl, hd⟩ := hrec.drow
    refine ⟨la, cap, rfl, (anew_any w' (hJ.below hb) h8 HP.out hage la ds.length cap ds hd (by omega) (fun d hd => okA_texts (hun.1 d hd))).mono ?_⟩
    rintro en w'' ⟨c, rfl, ⟨rfl, -, hP⟩ | ⟨-, hno, -⟩⟩
    · exact ⟨rfl, hP⟩
    · exact absurd hst.fit hno
  have HST : Hid (StIs n D.seen J ds) := hst
  have HB2 : Hid (Below w1.heap.size w1 w2) := hb2
  clear HJ hJ hst hun hfr hfl hb2 hl3 hage hlen
  go_upto_region 5 with (first | (go_at_call 12; refine HRC.mono ?_; rintro en w3 ⟨v3, rfl, hrec3, hb3⟩; obtain ⟨la, cap, rfl, HAN3⟩ := HAN.out w3 v3 hrec3 hb3; clear hrec3) | (go_at_call 13; refine HAN3.mono ?_; rintro en w4 ⟨rfl, HP4⟩))
  have HB3 : Hid (Below w1.heap.size w1 w3) := below2 HB2.out hb3
  clear HAN HAN3 HRC hb3
  go_wp2
  go_returns
  exact ⟨j, J, ds, rfl, HST.out, HP4.out.1, (below_low HB3.out HH.out.low).trans HP4.out.2.1, (Kj.below HB3.out).trans HP4.out.2.2⟩
end Go.Proofs.Ytmkmogkhkmlnkaa.Dm
