/-
  A row is written: writeRow.
-/
import Derived.Test.YtmkmogkhkmlnkaaJnC
namespace Go.Proofs.Ytmkmogkhkmlnkaa.Dm
open Go.ChangeShapes Go.WideShapes Go.ChangeAt Go.RowKit
set_option maxHeartbeats 2000000 in
theorem write_none {B a s k n : Nat} {D : Dm} {pv : Value} (w : World) (h : DmAt B a s k n D pv w) (p : Int) (hp0 : -9223372036854775808 ≤ p) (hp1 : p ≤ 9223372036854775807) (x : Option Addr) (c : Nat) :
    Calls Try.prog 28 #[.pointer (some ⟨a, 0, none⟩), .int .i64 p, .slice x 0 c] w fun e w' => e = .returned (.int .i64 0) ∧ w' = w := by
  have HHas := has_any w h p 0 (by omega) (by omega) hp1 hp0
  rw [decide_eq_true (.inl rfl)] at HHas
  clear h
  go_enter Try.func28, Try.ntmps28
  go_wp2_with (go_at_call 45; refine HHas.mono ?_; rintro e w1 ⟨rfl, rfl⟩)
  go_loopw [22] (fun i wr => i = .int .i64 0 ∧ wr = w1) (fun _ _ => 0)
  case atStart => exact ⟨rfl, rfl⟩
  case round =>
    obtain ⟨rfl, rfl⟩ := hrel
    go_wp2
    go_ret
    exact ⟨rfl, rfl⟩
/-- the sectors of the row in use from a place on -/
def rowW (n : Nat) (D : Dm) (J : Jr) (p : Nat) : Dm := writesN D (hN n J.second + 1 + p / 64) (fillL (J.fr.drop (p / 64 * 64))) (secs (J.fr.length - p / 64 * 64))
theorem rowW_fit {n : Nat} (h8 : 8 ≤ (n : Int)) (b : Bool) {q m L : Nat} (hL : L ≤ roomN n) (hq : q * 64 ≤ L) (hm : m = secs (L - q * 64)) : hN n b + 1 + q + m ≤ n := by
  unfold roomN at hL
  have : hN n b ≤ n / 2 := by unfold hN; split <;> omega
  subst hm
  unfold secs
  omega
set_option maxHeartbeats 4000000 in
theorem writeRow_any {B j a s k n : Nat} {D : Dm} {pv : Value} {J : Jr} {fv : Value} (w : World) (h : JW B j a s k n D pv J fv w) (h8 : 8 ≤ (n : Int)) (he : J.fr.length ≤ roomN n) (hp : (D.pend.length : Int) ≤ 80000) (p : Nat) (hpl : p = 0 ∨ p < J.fr.length) :
    Calls Try.prog 26 #[.pointer (some ⟨j, 0, none⟩), .int .i64 (p : Int)] w fun e w' => e = .returned (.tuple #[]) ∧ JPost B j a s k n (rowW n D J p) J w w' := by
  obtain ⟨fa, fc, rfl, hrow, hlow⟩ := Fr.RowAt.of_own h.r.own
  have hn := h.d.ok.n1
  obtain ⟨q, hq⟩ : ∃ q, q = p / 64 := ⟨_, rfl⟩
  have hq1 : (p : Int).tdiv 64 = (q : Int) := by rw [Int.tdiv_eq_ediv_of_nonneg (by omega), hq]; omega
  have hq2 : q * 64 ≤ J.fr.length := by omega
  have hq3 : J.fr.length ≤ 262144 := by unfold roomN at he; omega
  obtain ⟨lo, hlo⟩ : ∃ lo, lo = q * 64 := ⟨_, rfl⟩
  obtain ⟨m, hm⟩ : ∃ m, m = secs (J.fr.length - lo) := ⟨_, rfl⟩
  have hfit := rowW_fit h8 J.second he hq2 (hlo ▸ hm)
  obtain ⟨a2, hif, hrow2⟩ := Fr.slice_from fa J.fr.length fc J.fr lo (hlo ▸ hq2)
  have hc1 : J.fr.length ≤ fc := hrow.2.1
  have hc2 : fc ≤ maxLen := hrow.2.2.1
  unfold maxLen at hc2
  have HK : Hid (∀ w', JrAt B j a J (.slice fa J.fr.length fc) w' → w'.cell? ⟨j, 0, none⟩ = some (.pointer (some ⟨a, 0, none⟩)) ∧ w'.cell? ⟨j, 3, none⟩ = some (.slice fa J.fr.length fc)) := fun w' hj => ⟨hj.c0, hj.c3⟩
  have HB : Hid (∀ w', Below w.heap.size w w' → w'.cell? ⟨j, 0, none⟩ = some (.pointer (some ⟨a, 0, none⟩)) ∧ w'.cell? ⟨j, 3, none⟩ = some (.slice fa J.fr.length fc)) := fun w' hb => HK.out _ (h.below hb).r
  have H1 : Hid (∀ w', Below w.heap.size w w' → Calls Try.prog 29 #[.pointer (some ⟨j, 0, none⟩)] w' fun e w'' => e = .returned (.int .i64 (hN n J.second : Nat)) ∧ Below w'.heap.size w' w'') := fun w' hb => jHeadAt_any w' (h.below hb)
  have H2 : Hid (∀ w', Below w.heap.size w w' → Calls Try.prog 44 #[.slice a2 (J.fr.length - lo) (fc - lo)] w' fun en w'' => NewB (fillL (J.fr.drop lo)) (64 * m) w' w'' en) := fun w' hb => by
    refine (filled_any _ _ _ _ w' (hrow2 _ (hrow.below hb)) (by omega)).mono ?_
    rintro en w'' ⟨b, rfl, h1, h2, h3⟩
    rw [List.length_drop, ← hm]
    exact ⟨b, rfl, h1, h2, h3⟩
  have H3 : Hid (∀ w' b, Below w.heap.size w w' → w.heap.size ≤ b → w'.heap[b]? = some (.cells (cellsB (fillL (J.fr.drop lo))).toArray 5 (0, 0)) → Calls Try.prog 28 #[.pointer (some ⟨a, 0, none⟩), .int .i64 (((hN n J.second : Nat) : Int) + 1 + (q : Int)), .slice (some ⟨b, 0, none⟩) (64 * m) (64 * m)] w' fun e w'' => e = .returned (.int .i64 0) ∧ Hid (JrAt B j a J (.slice fa J.fr.length fc) w'' ∧ JPost B j a s k n (rowW n D J p) J w w'')) := fun w' b hb hb2 hl => by
    have hJ' := h.below hb
    have e1 : ((hN n J.second : Nat) : Int) + 1 + (q : Int) = ((hN n J.second + 1 + q : Nat) : Int) := by omega
    rw [e1]
    have HR : rowW n D J p = writesN D (hN n J.second + 1 + q) (fillL (J.fr.drop lo)) m := by rw [hm, hlo, hq]; rfl
    rw [HR]
    by_cases h0 : m = 0
    · subst h0
      refine (write_none w' hJ'.d _ (by omega) (by omega) _ _).mono ?_
      rintro e w'' ⟨rfl, rfl⟩
      exact ⟨rfl, hJ'.r, ⟨pv, _, hJ'⟩, below_low hb h.d.low, Kj.below hb⟩
    · refine (write_any w' hJ'.d (hN n J.second + 1 + q) m b 0 (64 * m) _ hfit (by omega) (by rw [fillL_length, List.length_drop, hm]) (Nat.le_refl _) (by omega) (page_src h.d hb2 hl) (by omega)).mono ?_
      rintro e w'' ⟨rfl, hP⟩
      obtain ⟨⟨pv', hD'⟩, hb', hk'⟩ := hP
      have r := hJ'.post ⟨⟨pv', hD'⟩, hb', hk'⟩
      exact ⟨rfl, (hJ'.kd hD' hk').r, r.1, (below_low hb h.d.low).trans r.2.1, (Kj.below hb).trans r.2.2⟩
  have hN2 : hN n J.second ≤ 8192 := by omega
  clear h hrow hlow hrow2 hm hfit hpl hq he hp h8
  generalize rowW n D J p = D3 at *
  generalize fillL (J.fr.drop lo) = X at *
  generalize hN n J.second = z at *
  generalize J.fr.length = N at *
  have x0 : IntKind.i64.wrap ((q : Int) * 64) = (lo : Int) := by rw [IntKind.wrap_i64]; omega
  have x1 : (lo : Int) ≤ (N : Int) := by omega
  have x2 : (N : Int) ≤ (fc : Int) := by omega
  have x3 : IntKind.i64.wrap ((z : Int) + 1) = (z : Int) + 1 := by rw [IntKind.wrap_i64]; omega
  have x4 : IntKind.i64.wrap ((z : Int) + 1 + (q : Int)) = (z : Int) + 1 + (q : Int) := by rw [IntKind.wrap_i64]; omega
  clear hlo
  go_enter Try.func26, Try.ntmps26
  go_wp2_with fail
  go_region_held3 (fun w' => w'.cell? ⟨j, 0, none⟩ = some (.pointer (some ⟨a, 0, none⟩)) ∧ w'.cell? ⟨j, 3, none⟩ = some (.slice fa N fc))
    (first | exact HB.out _ (below_drew _) | exact HK.out _ HP8.out.1 | exact HB.out _ (below2 (below_drew _) (by assumption)) | exact HB.out _ (below2 (below_drew _) (below2 (by assumption) (by assumption))))
    ((first
      | (go_at_call 29; refine (H1.out _ (by first | exact below_drew _ | exact below2 (below_drew _) hb7)).mono ?_; rintro en w6 ⟨rfl, hb6⟩)
      | (go_at_call 44; refine (H2.out _ (by first | exact below_drew _ | exact below2 (below_drew _) hb6)).mono ?_; rintro en w7 ⟨b, rfl, hg7, hl7, hb7⟩)
      | (go_at_call 28; refine (H3.out _ b (by first | exact below2 (below_drew _) (below2 hb6 hb7) | exact below2 (below_drew _) (below2 hb7 hb6)) (by first | exact Nat.le_trans (below2 (below_drew _) hb6).size hg7 | exact hg7) (by first | exact hl7 | exact (hb6.block b (Array.getElem?_eq_some_iff.1 hl7).1).trans hl7)).mono ?_; rintro en w8 ⟨rfl, HP8⟩)))
  all_goals
    clear hb6 hb7 hl7 hg7 H1 H2 H3
    first | go_end0 | (go_wp2; first | go_end0 | refine bodyPost_ret (results_none rfl _ _ _) rfl ?_)
    exact ⟨rfl, HP8.out.2⟩
end Go.Proofs.Ytmkmogkhkmlnkaa.Dm
