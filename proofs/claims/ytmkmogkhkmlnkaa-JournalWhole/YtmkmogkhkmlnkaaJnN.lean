/-
  Anew: begun anew with some data.
-/
import Derived.Test.YtmkmogkhkmlnkaaJnM
import Derived.BigRegion
namespace Go.Proofs.Ytmkmogkhkmlnkaa.Dm
open Go.ChangeShapes Go.WideShapes Go.ChangeAt Go.RowKit
def anewJ (J : Jr) (ds : List Fr.Dat) : Jr := ⟨!J.second, J.age + 1, flatA (J.age + 1) ds⟩
def anewD (n : Nat) (D : Dm) (J : Jr) (ds : List Fr.Dat) : Dm := syncJ n (rowW n D (anewJ J ds) 0) (anewJ J ds)
/-- behind Anew -/
def AnPost (B j a s k n : Nat) (D : Dm) (J : Jr) (ds : List Fr.Dat) (w w' : World) (e : Ending) : Prop := ∃ c : Nat, e = .returned (.int .i64 (c : Int)) ∧ ((c = 0 ∧ FitA (J.age + 1) (roomN n) ds ∧ JPost B j a s k n (anewD n D J ds) (anewJ J ds) w w') ∨ (c ≠ 0 ∧ ¬ FitA (J.age + 1) (roomN n) ds ∧ JPost B j a s k n D J w w'))
theorem spendD_pend' (D : Dm) : (spendD D).pend.length = D.pend.length := by rw [spendD_pend]
theorem rowW_pend (n : Nat) (D : Dm) (J : Jr) (p : Nat) : (rowW n D J p).pend.length ≤ D.pend.length + secs (J.fr.length - p / 64 * 64) := writesN_pend _ _ _ _
theorem DmAt.other {B a s k n : Nat} {D : Dm} {pv : Value} {w : World} {j : Nat} {c : Array Value} (h : DmAt B a s k n D pv w) (hj : w.heap[j]? = some (.cells c 53 (0, 0))) (i : Nat) (v : Value) : DmAt B a s k n D pv (w.setCell ⟨j, i, none⟩ v) := h.keep fun b hb => heap_setCell_ne _ _ _ _ fun e => by
  subst e
  rcases hb with rfl | rfl | rfl | hb
  · exact absurd (heap_T hj h.box) (by decide)
  · exact absurd (heap_T hj h.hseen) (by decide)
  · exact absurd (heap_T hj h.hkept) (by decide)
  · obtain ⟨cur, hc⟩ := own_T h.own hb
    exact absurd (heap_T hj hc) (by decide)
theorem JPost.drew {B j a s k n : Nat} {D : Dm} {J : Jr} {w w' : World} (h : JPost B j a s k n D J w w') : JPost B j a s k n D J w w'.drew := by
  obtain ⟨⟨pv, fv, hJ⟩, hb, hk⟩ := h
  exact ⟨⟨pv, fv, hJ.below (below_drew _)⟩, hb.trans (below_low (below_drew _) hJ.d.low), hk.trans (Kj.below (below_drew _))⟩
/-- the journal's box anew -/
theorem JW.anew {B j a s k n : Nat} {D : Dm} {pv : Value} {J : Jr} {fv : Value} {w1 w7 : World} (h : JW B j a s k n D pv J fv w1) (hb : Below w1.heap.size w1 w7) {x : Option Addr} {m q : Nat} (J' : Jr) (ho : w7.ownsRow w1.heap.size 5 1 (.slice x m q) J'.fr.length (cellsB J'.fr)) :
    JPost B j a s k n D J' w1 (((w7.setCell ⟨j, 1, none⟩ (.bool J'.second)).setCell ⟨j, 2, none⟩ (.int .i64 (J'.age : Int))).setCell ⟨j, 3, none⟩ (.slice x m q)) := by
  have h7 := h.below hb
  have b1 := heap_setCell_same h7.r.box 1 (.bool J'.second)
  have b2 := heap_setCell_same b1 2 (.int .i64 (J'.age : Int))
  have b3 := heap_setCell_same b2 3 (.slice x m q)
  refine ⟨⟨pv, .slice x m q, ((h7.d.other h7.r.box 1 _).other b1 2 _).other b2 3 _, ⟨h.r.bj, b3, ?_⟩, fun g hg => ?_⟩, ?_, ?_⟩
  · refine own_of (Fr.own_mono ho h.d.low) fun g hg => ?_
    have hne : g ≠ j := fun e => by
      obtain ⟨cur, hc⟩ := own_T ho hg
      exact absurd (heap_T hc (e ▸ h7.r.box)) (by decide)
    exact (heap_setCell_ne _ _ _ _ hne).trans ((heap_setCell_ne _ _ _ _ hne).trans (heap_setCell_ne _ _ _ _ hne))
  · have := (ho.lt g hg).1
    have := h.d.lt (.inr (.inl rfl))
    have := h.d.lt (.inr (.inr (.inl rfl)))
    omega
  · exact (((below_low hb h.d.low).trans (below_setCell _ _ _ h.r.bj)).trans (below_setCell _ _ _ h.r.bj)).trans (below_setCell _ _ _ h.r.bj)
  · exact (((Kj.below hb).trans (Kj.set h7.r.box _ _)).trans (Kj.set b1 _ _)).trans (Kj.set b2 _ _)
set_option maxHeartbeats 8000000 in
set_option maxRecDepth 60000 in
theorem anew_any {B j a s k n : Nat} {D : Dm} {pv : Value} {J : Jr} {fv : Value} (w : World) (h : JW B j a s k n D pv J fv w) (h8 : 8 ≤ (n : Int)) (hp : (D.pend.length : Int) ≤ 70000) (hg : (J.age : Int) < 2147483647) (la : Option Addr) (len cap : Nat) (ds : List Fr.Dat) (hd : Fr.DRow w la len cap ds) (hlen : (len : Int) ≤ 300000) (hT : ∀ d ∈ ds, ((d.2.length : Nat) : Int) ≤ 100000) :
    Calls Try.prog 13 #[.pointer (some ⟨j, 0, none⟩), .slice la len cap] w fun e w' => AnPost B j a s k n D J ds w w' e := by
  have hr := roomN_le h.d.ok.n1
  have HG := given_any w h.r
  have c2 := h.r.c2
  have HH : Hid (JW B j a s k n D pv J fv w) := h
  have HK : Hid (∀ w', Below w.heap.size w w' → (w'.cell? ⟨j, 0, none⟩ = some (.pointer (some ⟨a, 0, none⟩)) ∧ w'.cell? ⟨j, 2, none⟩ = some (.int .i64 (J.age : Int))) ∧ Below w.heap.size w w') := fun w' hb => ⟨⟨(h.below hb).r.c0, (h.below hb).r.c2⟩, hb⟩
  have HU : Hid (∀ w', Below w.heap.size w w' → Calls Try.prog 33 #[.pointer (some ⟨a, 0, none⟩)] w' fun e w'' => e = .returned (.int .i64 (roomN n : Nat)) ∧ w'' = w') := fun w' hb => rowBytes_any w' (h.below hb).d h8
  have HF : Hid (∀ w', Below w.heap.size w w' → Calls Try.prog 32 #[.slice la len cap, .int .i64 ((J.age : Int) + 1), .int .i64 (roomN n : Nat)] w' fun e w'' => ∃ (x : Option Addr) (m q c : Nat), e = .returned (.tuple #[.slice x m q, .int .i64 (c : Int)]) ∧ Hid (Below w'.heap.size w' w'' ∧ ((c = 0 ∧ m = (flatA (J.age + 1) ds).length ∧ w''.ownsRow w.heap.size 5 1 (.slice x m q) m (cellsB (flatA (J.age + 1) ds)) ∧ FitA (J.age + 1) (roomN n) ds) ∨ (c ≠ 0 ∧ ¬ FitA (J.age + 1) (roomN n) ds)))) := fun w' hb => by
    have := framed_any la len cap ds w' (hd.below hb) hlen hT (J.age + 1) (by omega) (roomN n) (by omega)
    rw [show ((J.age + 1 : Nat) : Int) = (J.age : Int) + 1 by omega] at this
    refine this.mono ?_
    rintro e w'' ⟨hb2, ⟨v, rfl, ho, hf⟩ | ⟨c, rfl, hc, hf⟩⟩
    · obtain ⟨x, q, rfl, -, -⟩ := Fr.RowAt.of_own ho
      exact ⟨x, _, q, 0, rfl, hb2, .inl ⟨rfl, rfl, Fr.own_mono ho hb.size, hf⟩⟩
    · exact ⟨none, 0, 0, c, rfl, hb2, .inr ⟨hc, hf⟩⟩
  have hne : ((J.age : Int) == 2147483647) = false := by simp; omega
  have x0 : IntKind.i64.wrap ((J.age : Int) + 1) = (J.age : Int) + 1 := by rw [IntKind.wrap_i64]; omega
  have HP : Hid ((D.pend.length : Int) ≤ 70000) := hp
  have HA : Hid ((J.age : Int) < 2147483647) := hg
  have HR : Hid (((roomN n : Nat) : Int) ≤ 262144) := hr
  clear h hd hlen hT hp hg hr
  generalize hrn : roomN n = R at *
  go_enter Try.func13, Try.ntmps13
  go_upto_region 5 with (go_at_call 23; refine HG.mono ?_; rintro e w1 ⟨rfl, rfl⟩)
  go_region_held3 (fun w' => (w'.cell? ⟨j, 0, none⟩ = some (.pointer (some ⟨a, 0, none⟩)) ∧ w'.cell? ⟨j, 2, none⟩ = some (.int .i64 (J.age : Int))) ∧ Below w1.heap.size w1 w')
    (first | exact HK.out _ (below_drew _) | assumption | exact HK.out _ (below2 (below_drew _) H7.out.1))
    ((first | (go_at_call 33; refine (HU.out _ (by go_split_ands; assumption)).mono ?_; rintro en w6 ⟨rfl, rfl⟩) | (go_at_call 32; refine (HF.out _ (by go_split_ands; assumption)).mono ?_; rintro en w7 ⟨x, m, q, c, rfl, H7⟩)))
  clear HU HF HK
  have hb7 : Below w1.heap.size w1 w7 := below2 (below_drew _) H7.out.1
  by_cases hc : c = 0
  · subst hc
    rcases H7.out.2 with ⟨-, hm, ho, hf⟩ | ⟨h9, -⟩
    · have hJ7 := HH.out.below hb7
      have c1' := hJ7.r.c1
      have c2' := hJ7.r.c2
      have c3' := hJ7.r.c3
      have f1 := hJ7.r.fz 1
      have f2 := hJ7.r.fz 2
      have f3 := hJ7.r.fz 3
      have HM : Hid (m = (flatA (J.age + 1) ds).length) := hm
      clear hm
      go_upto_region 8 with fail
      go_region
      have HA8 : Hid (∀ W, W = (((w7.setCell ⟨j, 1, none⟩ (.bool (!J.second))).setCell ⟨j, 2, none⟩ (.int .i64 ((J.age : Int) + 1))).setCell ⟨j, 3, none⟩ (.slice x m q)).drew → JPost B j a s k n D (anewJ J ds) w1 W) := fun W e => by
        rw [e, show (J.age : Int) + 1 = ((J.age + 1 : Nat) : Int) by omega]
        exact (HH.out.anew hb7 (anewJ J ds) (by show w7.ownsRow w1.heap.size 5 1 (.slice x m q) (flatA (J.age + 1) ds).length (cellsB (flatA (J.age + 1) ds)); rw [← HM.out]; exact ho)).drew
      generalize hw8 : (((w7.setCell ⟨j, 1, none⟩ (.bool (!J.second))).setCell ⟨j, 2, none⟩ (.int .i64 ((J.age : Int) + 1))).setCell ⟨j, 3, none⟩ (.slice x m q)).drew = w8 at *
      have hP8 := HA8.out w8 rfl
      clear HA8 hw8
      have HP8 : Hid (JPost B j a s k n D (anewJ J ds) w1 w8) := hP8
      obtain ⟨⟨pv8, fv8, hJ8⟩, -, -⟩ := hP8
      have HFit : Hid (FitA (J.age + 1) R ds) := hf
      have hfl : (anewJ J ds).fr.length ≤ roomN n := by rw [hrn]; exact hf.2
      have HWR := writeRow_any w8 hJ8 h8 hfl (by have := HP.out; omega) 0 (.inl rfl)
      have hsl : secs ((anewJ J ds).fr.length - 0 / 64 * 64) ≤ 5000 := by
        have := HR.out
        unfold secs
        omega
      have hpr := rowW_pend n D (anewJ J ds) 0
      have HPR : Hid (((rowW n D (anewJ J ds) 0).pend.length : Int) ≤ 90000) := by show _ ≤ _; have := HP.out; omega
      have HFL : Hid (((anewJ J ds).fr.length : Int) ≤ 2147483647) := by show _ ≤ _; have := HR.out; omega
      have HAG : Hid (((anewJ J ds).age : Int) ≤ 2147483647) := by show ((J.age + 1 : Nat) : Int) ≤ _; have := HA.out; omega
      have HEQ : Hid (anewD n D J ds = syncJ n (rowW n D (anewJ J ds) 0) (anewJ J ds)) := rfl
      clear hJ8 hpr hsl hfl hf HM ho hb7 H7 hJ7 c1' c2' c3' f1 f2 f3 HH HR HP HA
      generalize hje : anewJ J ds = J' at *
      have HJE : Hid (anewJ J ds = J') := hje
      clear hje
      go_upto_region 10 with (go_at_call 26; refine HWR.mono ?_; rintro en w9 ⟨rfl, hP9⟩)
      have HP9 : Hid (JPost B j a s k n (rowW n D J' 0) J' w1 w9) := HP8.out.trans hP9
      obtain ⟨⟨pv9, fv9, hJ9⟩, -, -⟩ := hP9
      have HSY := sync_j w9 hJ9 h8 HAG.out HFL.out HPR.out
      clear hJ9 HWR HP8
      go_wp2_with (go_at_call 11; refine HSY.mono ?_; rintro en w10 ⟨rfl, hP10⟩)
      go_ret
      refine ⟨0, rfl, .inl ⟨rfl, by rw [hrn]; exact HFit.out, ?_⟩⟩
      rw [HEQ.out, HJE.out]
      exact HP9.out.trans hP10
    · exact absurd rfl h9
  · have hc2 : ((c : Int) != 0) = true := by simp; omega
    have HOUT : Hid (AnPost B j a s k n D J ds w1 w7 (.returned (.int .i64 (c : Int)))) := by
      rcases H7.out.2 with ⟨h9, -⟩ | ⟨-, hnf⟩
      · exact absurd h9 hc
      · exact ⟨c, rfl, .inr ⟨hc, by rw [hrn]; exact hnf, ⟨pv, fv, HH.out.below hb7⟩, below_low hb7 HH.out.d.low, Kj.below hb7⟩⟩
    clear H7 hb7 HH hc
    go_wp2
    go_ret
    exact HOUT.out
end Go.Proofs.Ytmkmogkhkmlnkaa.Dm
