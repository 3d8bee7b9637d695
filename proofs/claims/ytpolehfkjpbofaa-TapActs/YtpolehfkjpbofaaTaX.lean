/-
  The law of acts.
-/
import Derived.Test.YtpolehfkjpbofaaTaW
namespace Go.Proofs.Ytpolehfkjpbofaa.Ta
open Go.ChangeShapes Go.WideShapes Go.ChangeAt Go.RowKit
theorem cell_lt {w : World} {b o : Nat} {v : Value} (h : w.cell? ⟨b, o, none⟩ = some v) : b < w.heap.size := by
  rcases Nat.lt_or_ge b w.heap.size with hl | hl
  · exact hl
  · unfold World.cell? at h
    have : w.heap[(⟨b, o, none⟩ : Addr).block]? = none := Array.getElem?_eq_none hl
    rw [this] at h
    simp at h
/-- pipes as they may be: so many, none too full -/
def FineP (k R : Nat) (P : List (List Int)) : Prop := P.length = k ∧ OkP P R
theorem putS_fine {k R : Nat} {P : List (List Int)} (h : FineP k R P) (pipe n : Int) : FineP k R (putS P R pipe n).1 := by
  unfold putS
  split
  · split
    · exact ⟨by simpa using h.1, h.2.set (by rw [List.length_append, List.length_singleton]; omega)⟩
    · exact h
  · exact h
theorem takeS_fine {k R : Nat} {P : List (List Int)} (h : FineP k R P) (pipe : Int) : FineP k R (takeS P pipe).1 := by
  unfold takeS
  split
  · have := h.2 pipe.toNat
    split
    · exact h
    · rename_i x l e
      rw [e] at this
      exact ⟨by simpa using h.1, h.2.set (by simp at this; omega)⟩
  · exact h
theorem nextS_fine {k R t : Nat} {P : List (List Int)} (h : FineP k R P) (ht : t < k) : FineP k R (nextS P t).1 ∧ (nextS P t).2.1 < k := by
  unfold nextS
  split
  · exact ⟨h, ht⟩
  · rename_i d _
    refine ⟨⟨by simpa using h.1, h.2.set ?_⟩, ?_⟩
    · have := h.2 ((t + d) % P.length)
      rw [List.length_tail]; omega
    · show _ % P.length < k
      rw [h.1]; exact Nat.mod_lt _ (by omega)
theorem spreadS_fine {k R : Nat} {P : List (List Int)} (h : FineP k R P) (n : Int) : FineP k R (spreadS P R n).1 := by
  unfold spreadS
  simp only
  split
  · exact ⟨by simpa using h.1, h.2.set (by rw [List.length_append, List.length_singleton]; omega)⟩
  · exact h
/-- the answer's tap in its box -/
def AnsAt (w : World) (r k R : Nat) (P : List (List Int)) (t : Nat) : Prop := ∃ ra c, Bx3 w r 30 (.slice ra k c) (.int .i64 R) (.int .i64 t) ∧ RowsAt w ra k c P
theorem AnsAt.below {w w' : World} {r k R : Nat} {P : List (List Int)} {t : Nat} (h : AnsAt w r k R P t) (hb : Below w.heap.size w w') : AnsAt w' r k R P t := by
  obtain ⟨ra, c, hx, hr⟩ := h
  exact ⟨ra, c, hx.below hb, hr.below hb⟩
theorem AnsAt.kpt {B : Nat} {w w' : World} {r k R p : Nat} {P Q : List (List Int)} {t s R2 : Nat} (h : AnsAt w r k R P t) (hk : KpT p w w') (hT : TapAt B w p Q R2 s) : AnsAt w' r k R P t := by
  obtain ⟨ra, c, hx, hr⟩ := h
  obtain ⟨g, cs, hg⟩ := hT
  refine ⟨ra, c, hk _ _ hx (fun e => ?_) (fun _ _ _ _ _ _ => by simp), hr.kept (KeepT.of_kp hk hg.box (by decide)) (KeepT.of_kp hk hg.box (by decide))⟩
  exact hx.apart hg.box (by decide) e.symm
theorem ans_put {w : World} {r k R t2 : Nat} {P : List (List Int)} {ra : Option Addr} {c : Nat} {v0 v1 v2 : Value} (hx : Bx3 w r 30 v0 v1 v2) (hr : RowsAt w ra k c P) : AnsAt (put3 w r (.slice ra k c) (.int .i64 R) (.int .i64 t2)) r k R P t2 :=
  ⟨ra, c, hx.set _ _ _, hr.kept (keep_put3 hx (by decide) _ _ _) (keep_put3 hx (by decide) _ _ _)⟩
theorem own_ints {w : World} {B n : Nat} {v : Value} {l : List Int} (h : w.ownsRow B 3 1 v n (intsV l)) : ∃ a c, v = .slice a n c ∧ IntsAt w a l := by
  have hl : l.length = n := by have := h.1; simpa [intsV] using this
  obtain ⟨h1, ⟨e, h0⟩ | ⟨g, cap, cur, e, hB, hh, hn, hm, hs, ht⟩⟩ := h
  · subst h0
    exact ⟨none, 0, e, .inl (List.length_eq_zero_iff.1 hl)⟩
  · refine ⟨_, _, e, .inr ⟨g, rfl, (Array.getElem?_eq_some_iff.1 hh).1, fun i hi => ?_⟩⟩
    unfold World.cell?
    rw [show w.heap[(⟨g, i, none⟩ : Addr).block]? = _ from hh]
    have h2 : (intsV l)[i]? = some (.int .i64 (l.getD i 0)) := by simp [intsV, hi]
    rw [← ht, List.getElem?_take_of_lt (by omega)] at h2
    simpa using h2
theorem cnts_take {P : List (List Int)} {m : Nat} (h : m < P.length) : intsV ((cntsP P).take (m + 1)) = intsV ((cntsP P).take m) ++ [.int .i64 ((P.getD m []).length : Int)] := by
  have hm : m < (cntsP P).length := by rw [cntsP_len]; exact h
  rw [List.take_succ_eq_append_getElem hm, intsV, List.map_append]
  have : (cntsP P)[m] = ((P.getD m []).length : Int) := by rw [← cntsP_get P h]; simp [hm]
  rw [this]
  rfl
theorem rows_rep (w : World) (k : Nat) (hk : k ≤ 8) : RowsAt (w.alloc (.cells (Array.replicate k (Value.slice none 0 0)) 44)) (some ⟨w.heap.size, 0, none⟩) k k (List.replicate k []) := by
  refine ⟨List.replicate k (.slice none 0 0), ⟨by simp, Nat.le_refl _, by unfold maxLen; omega, .inr ⟨_, 0, rfl, ⟨_, heap_alloc_new w _⟩, fun i v hv => ?_⟩⟩, by simp, fun i hi => ?_⟩
  · unfold World.cell?
    rw [show (w.alloc (.cells (Array.replicate k (Value.slice none 0 0)) 44)).heap[(⟨w.heap.size, 0 + i, none⟩ : Addr).block]? = _ from heap_alloc_new w _]
    rw [← hv]
    simp [List.getElem?_replicate, Array.getElem?_replicate]
  · simp at hi
    exact ⟨none, 0, 0, by simp [hi], by simp [hi, intsV], Nat.le_refl _, Nat.zero_le _, .inl rfl⟩
theorem makeR (n : Nat) (hn : (n : Int) ≤ 8) (w : World) : (Instr.makeSlice 28 (.int .i64 (n : Int)) (.int .i64 (n : Int))).run Try.prog w = .ok (.slice (some ⟨w.heap.size, 0, none⟩) n n) (w.alloc (.cells (Array.replicate n (Value.slice none 0 0)) 44)) := by
  obtain ⟨i0, hi, hz0, hz1, hz2⟩ := info_parts info44z
  have e := run_make (P := Try.prog) w 28 44 i0 (.slice none 0 0) Try.underlying28 hi hz0 .i64 .i64 n n (by omega) (by omega) (by rw [hz2]; omega) (by omega)
  rw [e, hz1]
  have e2 : madeCells (Value.slice none 0 0).cells ((n : Int).toNat * 1) = (Array.replicate n (Value.slice none 0 0)) := by
    apply Array.toList_inj.1
    rw [show (Value.slice none 0 0).cells = #[Value.slice none 0 0] from rfl, toList_madeCells_one]
    simp
  rw [e2]
  rfl
set_option maxHeartbeats 2000000 in
set_option maxRecDepth 60000 in
theorem tapActs_bad (a b : Int) (v : Value) (w : World) (h : newP a b = false) : Calls Try.prog 3 #[.int .i64 a, .int .i64 b, v] w fun e w' => TruPost w e w' := by
  have hx : a < 1 ∨ (1 ≤ a ∧ 8 < a) ∨ (1 ≤ a ∧ a ≤ 8 ∧ b < 1) ∨ (1 ≤ a ∧ a ≤ 8 ∧ 1 ≤ b ∧ 64 < b) := by
    simp only [newP, Bool.and_eq_false_iff, decide_eq_false_iff_not] at h
    omega
  have HN := Hid.mk9 (new_bad a b w h)
  have HA := Hid.mk9 (awake_any w)
  clear h
  rcases hx with h1 | ⟨h1, h2⟩ | ⟨h1, h2, h3⟩ | ⟨h1, h2, h3, h4⟩
  all_goals
    go_enter Try.func3, Try.ntmps3
    go_wp2_with (first
      | (go_at_call 7; refine HN.out.mono ?_; rintro e w1 ⟨rfl, rfl⟩)
      | (go_at_call 8; refine HA.out.mono ?_; rintro e w2 ⟨rfl, hb⟩; have HB := Hid.mk9 hb; clear hb))
    go_ret
    exact ⟨rfl, HB.out⟩
set_option maxHeartbeats 8000000 in
set_option maxRecDepth 60000 in
theorem tapActs_good (k R : Nat) (ad : Option Addr) (len cap : Nat) (z : List Ac) (w : World) (hk : 1 ≤ k ∧ k ≤ 8) (hR : 1 ≤ R ∧ R ≤ 64) (h : ActsAt w ad len cap z) : Calls Try.prog 3 #[.int .i64 k, .int .i64 R, .slice ad len cap] w fun e w' => TruPost w e w' := by
  have k1 : (1 : Int) ≤ (k : Int) := by omega
  have k8 : (k : Int) ≤ 8 := by omega
  have r1 : (1 : Int) ≤ (R : Int) := by omega
  have r64 : (R : Int) ≤ 64 := by omega
  have HN := Hid.mk9 (new_any k R w hk hR)
  have HAw := Hid.mk9 awake_any
  have HK : Hid ((1 ≤ k ∧ k ≤ 8) ∧ 1 ≤ R ∧ R ≤ 64) := ⟨hk, hR⟩
  have HL := Hid.mk9 h.1
  have HC := Hid.mk9 h.2.2.2
  clear h hk hR
  go_enter Try.func3, Try.ntmps3
  go_upto_region 6 with (go_at_call 7; refine HN.out.mono ?_; rintro e w1 ⟨p, rfl, hT, hB⟩; have HT := Hid.mk9 hT; have HB := Hid.mk9 hB; clear hT hB)
  clear HN
  have hmk := makeR k k8 w1
  have hr := rows_rep w1 k HK.out.1.2
  have b1 := below_alloc w1 (.cells (Array.replicate k (Value.slice none 0 0)) 44)
  have b2 := below_alloc (w1.alloc (.cells (Array.replicate k (Value.slice none 0 0)) 44)) (.cells #[.slice (some ⟨w1.heap.size, 0, none⟩) k k, .int .i64 R, .int .i64 0] 30)
  have hx := Bx3.new (w1.alloc (.cells (Array.replicate k (Value.slice none 0 0)) 44)) 30 (.slice (some ⟨w1.heap.size, 0, none⟩) k k) (.int .i64 R) (.int .i64 0)
  have e1 : (w1.alloc (.cells (Array.replicate k (Value.slice none 0 0)) 44)).heap.size = w1.heap.size + 1 := by simp
  rw [e1] at hx
  have HS0 : Hid (TapAt w.heap.size ((w1.alloc (.cells (Array.replicate k (Value.slice none 0 0)) 44)).alloc (.cells #[.slice (some ⟨w1.heap.size, 0, none⟩) k k, .int .i64 R, .int .i64 0] 30)) p (List.replicate k []) R 0 ∧ FineP k R (List.replicate k []) ∧ 0 < k ∧ AnsAt ((w1.alloc (.cells (Array.replicate k (Value.slice none 0 0)) 44)).alloc (.cells #[.slice (some ⟨w1.heap.size, 0, none⟩) k k, .int .i64 R, .int .i64 0] 30)) (w1.heap.size + 1) k R (List.replicate k []) 0 ∧ Below w.heap.size w ((w1.alloc (.cells (Array.replicate k (Value.slice none 0 0)) 44)).alloc (.cells #[.slice (some ⟨w1.heap.size, 0, none⟩) k k, .int .i64 R, .int .i64 0] 30))) :=
    ⟨(HT.out.below b1).below b2, ⟨by simp, fun i => by simp only [List.getD_eq_getElem?_getD, List.getElem?_replicate]; split <;> simp⟩, HK.out.1.1, ⟨_, _, hx, hr.below b2⟩, (HB.out.trans (b1.mono HT.out.base)).trans (b2.mono (by have := HT.out.base; rw [e1]; omega))⟩
  have HQ : Hid (w.heap.size ≤ w1.heap.size + 1) := ⟨by have := HT.out.base; omega⟩
  clear HT HB b1 b2 hr hx e1
  go_upto_region 7 with fail
  clear hmk
  generalize (w1.alloc (.cells (Array.replicate k (Value.slice none 0 0)) 44)).alloc (.cells #[.slice (some ⟨w1.heap.size, 0, none⟩) k k, .int .i64 R, .int .i64 0] 30) = W0 at *
  generalize w1.heap.size + 1 = q9 at *
  go_wp2_with fail
  go_loopw [10] (fun i wr => ∃ (n : Nat) (P : List (List Int)) (t : Nat), n ≤ len ∧ n ≤ 100 ∧ i = .int .i64 n ∧ Hid (TapAt w.heap.size wr p P R t ∧ FineP k R P ∧ t < k ∧ AnsAt wr q9 k R P t ∧ Below w.heap.size w wr)) (fun i _ => 100 - (intOf i).toNat)
  case atStart => exact ⟨0, _, 0, Nat.zero_le _, Nat.zero_le _, rfl, HS0⟩
  case round =>
    clear HS0
    obtain ⟨n, P, t, hn, hn2, rfl, HS⟩ := hrel
    by_cases hlt : n < len ∧ n < 100
    · obtain ⟨hlt, hl2⟩ := hlt
      have n1 : (n : Int) < (len : Int) := by omega
      have n2 : (n : Int) < 100 := by omega
      rcases HC.out with h0 | ⟨b, off, rfl, hcell⟩
      · omega
      obtain ⟨h1, h2, h3⟩ := hcell n hlt
      have hbN := Hid.mk9 (cell_lt h1)
      clear hcell
      obtain ⟨dd, pp, nn, hz⟩ : ∃ dd pp nn, z.getD n ac0 = (dd, pp, nn) := ⟨_, _, _, rfl⟩
      rw [hz] at h1 h2 h3
      have ha1 : Hid (w.cell? ⟨b, off + n * 3 + 1, none⟩ = some (.int .i64 pp)) := ⟨h2⟩
      have ha2 : Hid (w.cell? ⟨b, off + n * 3 + 2, none⟩ = some (.int .i64 nn)) := ⟨h3⟩
      have h4 : wr.cell? ⟨b, off + n * 3, none⟩ = some (.int .i64 dd) := by rw [cell_block (HS.out.2.2.2.2.block b hbN.out)]; exact h1
      clear h1 h2 h3 hz hn hn2 hlt hl2
      by_cases d0 : dd = 0
      · subst d0
        obtain ⟨P2, x, hP2⟩ : ∃ P2 x, putS P R pp nn = (P2, x) := ⟨_, _, rfl⟩
        have HF2 : Hid (FineP k R P2) := ⟨by have := putS_fine HS.out.2.1 pp nn; rw [hP2] at this; exact this⟩
        have HCp := Hid.mk9 (put_any (HS.out.1.below (below_drew wr)) (by rw [HS.out.2.1.1]; exact HK.out.1.2) pp nn)
        rw [hP2] at HCp
        go_upto_region 16 with fail
        refine acts_16 _ _ _ _ _ _ _ _ _ _ _ _ _ _ _ _ _ _ _ _ _ _ _ _ _ _ _ _ _ _ _ _ _ _ _ _ _ _ _ _ _ _ _ _ _ _ _ _ _ _ _ _ _ _ _ _ _ _ _ _ _ _ _ _ _ _ _ _ _ _ _ _ _ _ _ _ _ _ _ _ _ _ _ _ _ _ _ _ _ _ _ _ _ _ _ _ _ _ _ _ _ _ _ _ _ _ _ _ _ _ _ _ _ _ _ _ _ _ _ _ _ _ _ _ _ _ _ _ _ _ _ _ _ _ _ _ _ _ _ _ _ _ _ _ _ _ _ _ _ _ _ _ _ _ _ _ _ _ _ _ _ _ _ _ _ _ _ _ _ _ _ _ _ _ _ _ _ _ _ _ _ _ _ _ _ _ _ _ _ _ _ _ _ _ b off len cap n p pp nn x P2 R t w wr _ HS.out.2.2.2.2 hbN n1 ha1 ha2 HCp ⟨fun u0 u1 u2 u3 u4 u5 u6 u7 u8 u9 u10 u11 wC hTC hbC hkC => ?_⟩
        dsimp only
        go_upto_region 17 with fail
        have HA1 := HS.out.2.2.2.1.kpt hkC HS.out.1
        obtain ⟨ra, c, hx, hr⟩ := HA1
        have HCr := Hid.mk9 (rput_any (w := wC.drew) (v := .agg #[.slice ra k c, .int .i64 R, .int .i64 t]) (P := P) (R := R) (t := t) ⟨ra, c, by rw [HS.out.2.1.1], by rw [HS.out.2.1.1]; exact hr.below (below_drew wC)⟩ (by rw [HS.out.2.1.1]; exact HK.out.1.2) HK.out.2.2 HS.out.2.1.2 pp nn)
        rw [hP2] at HCr
        refine acts_17 _ _ _ _ _ _ _ _ _ _ _ _ _ _ _ _ _ _ _ _ _ _ _ _ _ _ _ _ _ _ _ _ _ _ _ _ _ _ _ _ _ _ _ _ _ _ _ _ _ _ _ _ _ _ _ _ _ _ _ _ _ _ _ _ _ _ _ _ _ _ _ _ _ _ _ _ _ _ _ _ _ _ _ _ _ _ _ _ _ _ _ _ _ _ _ _ _ _ _ _ _ _ _ _ _ _ _ _ _ _ _ _ _ _ _ _ _ _ _ _ _ _ _ _ _ _ _ _ _ _ _ _ _ _ _ _ _ _ _ _ _ _ _ _ _ _ _ _ _ _ _ _ _ _ _ _ _ _ _ _ _ _ _ _ _ _ _ _ _ _ _ _ _ _ _ _ _ _ _ _ _ _ _ _ _ _ _ _ _ _ _ _ _ _ b off len cap n q9 k c ra pp nn x P2 R t t w wC _ (HS.out.2.2.2.2.trans hbC) hbN n1 ha1 ha2 (Hid.mk9 hx) HQ (Hid.mk9 HF2.out.1) HCr ⟨fun u0 u1 u2 u3 u4 u5 u6 u7 u8 u9 u10 u11 u12 u13 u14 ra2 c3 wD hbD hxD hRD => ?_⟩
        dsimp only
        obtain ⟨t2, ht2⟩ : ∃ t2, t2 = t := ⟨_, rfl⟩
        have HS2 : Hid (TapAt w.heap.size (put3 wD q9 (.slice ra2 k c3) (.int .i64 R) (.int .i64 t)) p P2 R t2 ∧ FineP k R P2 ∧ t2 < k ∧ AnsAt (put3 wD q9 (.slice ra2 k c3) (.int .i64 R) (.int .i64 t)) q9 k R P2 t2 ∧ Below w.heap.size w (put3 wD q9 (.slice ra2 k c3) (.int .i64 R) (.int .i64 t))) := ⟨by rw [ht2]; exact (hTC.below hbD).put3 hxD _ _ _, HF2.out, by rw [ht2]; exact HS.out.2.2.1, by rw [ht2]; exact ans_put hxD hRD, put3_below ((HS.out.2.2.2.2.trans hbC).trans (hbD.mono (HS.out.2.2.2.2.trans hbC).size)) HQ.out _ _ _⟩
        generalize put3 wD q9 (.slice ra2 k c3) (.int .i64 R) (.int .i64 t) = Wt at *
        clear ht2 HCp HCr hP2 HF2 hTC hbC hkC hx hr hbD hxD hRD
        clear HS h4 ha1 ha2 hbN
        go_wp2_with fail
        go_loopw [17, 18] (fun v m wr2 => ∃ j : Nat, j ≤ k ∧ m = .int .i64 j ∧ Hid (wr2.ownsRow Wt.heap.size 3 1 v j (intsV ((cntsP P2).take j)) ∧ Below Wt.heap.size Wt wr2)) (fun _ m _ => k - (intOf m).toNat)
        case atStart => exact ⟨0, Nat.zero_le _, rfl, ⟨own_empty Wt 3, below_alloc Wt _⟩⟩
        case round =>
          obtain ⟨j, hj, rfl, HO⟩ := hrel
          by_cases hjk : j < k
          · have j1 : (j : Int) < (k : Int) := by omega
            obtain ⟨ra, c, hx, hr⟩ := HS2.out.2.2.2.1.below HO.out.2
            obtain ⟨c0, -, -⟩ := hx.cells
            obtain ⟨b4, o4, rfl, a4, n4, m4, g4, hrow⟩ := hr.at hjk
            have hn4 := Hid.mk9 hrow.len
            clear hx hr hrow
            go_wp2_with (at_builtin; refine append_vs (w0 := Wt) Try.underlying44 info3z rfl (by decide) rfl _ _ rfl _ j (intsV ((cntsP P2).take j)) rfl (own_alloc HO.out.1 _) (HO.out.2.alloc HO.out.2.size _) _ 1 1 [.int .i64 n4] rfl (vs_lit _ _) (by intro u hu; simp at hu; subst hu; rfl) (by omega) (by decide) ?_; intro v9 w9 hO9 hb9 _; have HO9 := Hid.mk9 hO9; have HB9 := Hid.mk9 hb9; clear hO9 hb9)
            exact ⟨⟨j + 1, by omega, by go_num, ⟨by rw [cnts_take (by rw [HS2.out.2.1.1]; exact hjk), hn4.out]; exact HO9.out, HB9.out⟩⟩, by simp [intOf]; omega⟩
          · obtain rfl : j = k := by omega
            clear hjk hj
            obtain ⟨hO, hOb⟩ := HO.out
            rw [List.take_of_length_le (by rw [cntsP_len, HS2.out.2.1.1]; exact Nat.le_refl _)] at hO
            obtain ⟨a7, c7, rfl, hI⟩ := own_ints hO
            have HI := Hid.mk9 hI
            have HS3 : Hid (TapAt w.heap.size wr p P2 R t2 ∧ AnsAt wr q9 j R P2 t2 ∧ Below w.heap.size w wr) := ⟨HS2.out.1.below hOb, HS2.out.2.2.2.1.below hOb, HS2.out.2.2.2.2.trans (hOb.mono HS2.out.2.2.2.2.size)⟩
            have hcl : (cntsP P2).length = j := by rw [cntsP_len, HS2.out.2.1.1]
            clear HO hO hOb hI
            go_wp2_with (first
              | (go_at_call 18; refine (counts_any w.heap.size p R t2 j P2 wr HS3.out.1 HS2.out.2.1.1 HK.out.1.2).mono ?_; rintro e w5 ⟨a5, rfl, ⟨hI5, -⟩, hb5⟩; have HI5 := Hid.mk9 hI5; have HB5 := Hid.mk9 hb5; clear hI5 hb5; simp only [hcl])
              | (go_at_call 17; refine (rints_any a5 a7 j _ _ (cntsP P2) w5 hcl HK.out.1.2 HI5.out (ints_below HI.out HB5.out)).mono ?_; rintro e w6 ⟨rfl, hb6⟩; have HB6 := Hid.mk9 (below2 HB5.out hb6); clear hb6))
            exact ⟨⟨n + 1, P2, t2, by omega, by omega, by go_num, ⟨HS3.out.1.below HB6.out, HS2.out.2.1, HS2.out.2.2.1, HS3.out.2.1.below HB6.out, HS3.out.2.2.trans (HB6.out.mono HS3.out.2.2.size)⟩⟩, by simp [intOf]; omega⟩
      · by_cases d1 : dd = 1
        · subst d1
          clear d0
          obtain ⟨P2, x, y, hP2⟩ : ∃ P2 x y, takeS P pp = (P2, x, y) := ⟨_, _, _, rfl⟩
          have HF2 : Hid (FineP k R P2) := ⟨by have := takeS_fine HS.out.2.1 pp; rw [hP2] at this; exact this⟩
          have HCp := Hid.mk9 (take_any HS.out.1 (by rw [HS.out.2.1.1]; exact HK.out.1.2) pp)
          rw [hP2] at HCp
          have h5 : wr.cell? ⟨b, off + n * 3 + 1, none⟩ = some (.int .i64 pp) := by rw [cell_block (HS.out.2.2.2.2.block b hbN.out)]; exact ha1.out
          go_upto_region 20 with (go_at_call 11; refine HCp.out.mono ?_; rintro e wC ⟨rfl, hTC, hbC, hkC, -⟩)
          clear h5
          have HA1 := HS.out.2.2.2.1.kpt hkC HS.out.1
          obtain ⟨ra, c, hx, hr⟩ := HA1
          have HCr := Hid.mk9 (rtake_any (w := wC.drew) (v := .agg #[.slice ra k c, .int .i64 R, .int .i64 t]) (P := P) (R := R) (t := t) ⟨ra, c, by rw [HS.out.2.1.1], by rw [HS.out.2.1.1]; exact hr.below (below_drew wC)⟩ (by rw [HS.out.2.1.1]; exact HK.out.1.2) HK.out.2.2 HS.out.2.1.2 pp)
          rw [hP2] at HCr
          refine acts_20 _ _ _ _ _ _ _ _ _ _ _ _ _ _ _ _ _ _ _ _ _ _ _ _ _ _ _ _ _ _ _ _ _ _ _ _ _ _ _ _ _ _ _ _ _ _ _ _ _ _ _ _ _ _ _ _ _ _ _ _ _ _ _ _ _ _ _ _ _ _ _ _ _ _ _ _ _ _ _ _ _ _ _ _ _ _ _ _ _ _ _ _ _ _ _ _ _ _ _ _ _ _ _ _ _ _ _ _ _ _ _ _ _ _ _ _ _ _ _ _ _ _ _ _ _ _ _ _ _ _ _ _ _ _ _ _ _ _ _ _ _ _ _ _ _ _ _ _ _ _ _ _ _ _ _ _ _ _ _ _ _ _ _ _ _ _ _ _ _ _ _ _ _ _ _ _ _ _ _ _ _ _ _ _ _ _ _ _ _ _ _ _ _ _ b off len cap n q9 k c ra pp x y P2 R t t w wC _ (HS.out.2.2.2.2.trans hbC) hbN n1 ha1 (Hid.mk9 hx) HQ (Hid.mk9 HF2.out.1) HCr ⟨fun u0 u1 u2 u3 u4 u5 u6 u7 u8 u9 u10 ra2 c3 wD hbD hxD hRD => ?_⟩
          dsimp only
          obtain ⟨t2, ht2⟩ : ∃ t2, t2 = t := ⟨_, rfl⟩
          have HS2 : Hid (TapAt w.heap.size (put3 wD q9 (.slice ra2 k c3) (.int .i64 R) (.int .i64 t)) p P2 R t2 ∧ FineP k R P2 ∧ t2 < k ∧ AnsAt (put3 wD q9 (.slice ra2 k c3) (.int .i64 R) (.int .i64 t)) q9 k R P2 t2 ∧ Below w.heap.size w (put3 wD q9 (.slice ra2 k c3) (.int .i64 R) (.int .i64 t))) := ⟨by rw [ht2]; exact (hTC.below hbD).put3 hxD _ _ _, HF2.out, by rw [ht2]; exact HS.out.2.2.1, by rw [ht2]; exact ans_put hxD hRD, put3_below ((HS.out.2.2.2.2.trans hbC).trans (hbD.mono (HS.out.2.2.2.2.trans hbC).size)) HQ.out _ _ _⟩
          generalize (put3 wD q9 (.slice ra2 k c3) (.int .i64 R) (.int .i64 t)) = Wt at *
          clear ht2 HCp HCr hP2 HF2 hTC hbC hkC hx hr hbD hxD hRD
          clear HS h4 ha1 ha2 hbN
          go_wp2_with fail
          go_loopw [17, 18] (fun v m wr2 => ∃ j : Nat, j ≤ k ∧ m = .int .i64 j ∧ Hid (wr2.ownsRow Wt.heap.size 3 1 v j (intsV ((cntsP P2).take j)) ∧ Below Wt.heap.size Wt wr2)) (fun _ m _ => k - (intOf m).toNat)
          case atStart => exact ⟨0, Nat.zero_le _, rfl, ⟨own_empty Wt 3, below_alloc Wt _⟩⟩
          case round =>
            obtain ⟨j, hj, rfl, HO⟩ := hrel
            by_cases hjk : j < k
            · have j1 : (j : Int) < (k : Int) := by omega
              obtain ⟨ra, c, hx, hr⟩ := HS2.out.2.2.2.1.below HO.out.2
              obtain ⟨c0, -, -⟩ := hx.cells
              obtain ⟨b4, o4, rfl, a4, n4, m4, g4, hrow⟩ := hr.at hjk
              have hn4 := Hid.mk9 hrow.len
              clear hx hr hrow
              go_wp2_with (at_builtin; refine append_vs (w0 := Wt) Try.underlying44 info3z rfl (by decide) rfl _ _ rfl _ j (intsV ((cntsP P2).take j)) rfl (own_alloc HO.out.1 _) (HO.out.2.alloc HO.out.2.size _) _ 1 1 [.int .i64 n4] rfl (vs_lit _ _) (by intro u hu; simp at hu; subst hu; rfl) (by omega) (by decide) ?_; intro v9 w9 hO9 hb9 _; have HO9 := Hid.mk9 hO9; have HB9 := Hid.mk9 hb9; clear hO9 hb9)
              exact ⟨⟨j + 1, by omega, by go_num, ⟨by rw [cnts_take (by rw [HS2.out.2.1.1]; exact hjk), hn4.out]; exact HO9.out, HB9.out⟩⟩, by simp [intOf]; omega⟩
            · obtain rfl : j = k := by omega
              clear hjk hj
              obtain ⟨hO, hOb⟩ := HO.out
              rw [List.take_of_length_le (by rw [cntsP_len, HS2.out.2.1.1]; exact Nat.le_refl _)] at hO
              obtain ⟨a7, c7, rfl, hI⟩ := own_ints hO
              have HI := Hid.mk9 hI
              have HS3 : Hid (TapAt w.heap.size wr p P2 R t2 ∧ AnsAt wr q9 j R P2 t2 ∧ Below w.heap.size w wr) := ⟨HS2.out.1.below hOb, HS2.out.2.2.2.1.below hOb, HS2.out.2.2.2.2.trans (hOb.mono HS2.out.2.2.2.2.size)⟩
              have hcl : (cntsP P2).length = j := by rw [cntsP_len, HS2.out.2.1.1]
              clear HO hO hOb hI
              go_wp2_with (first
                | (go_at_call 18; refine (counts_any w.heap.size p R t2 j P2 wr HS3.out.1 HS2.out.2.1.1 HK.out.1.2).mono ?_; rintro e w5 ⟨a5, rfl, ⟨hI5, -⟩, hb5⟩; have HI5 := Hid.mk9 hI5; have HB5 := Hid.mk9 hb5; clear hI5 hb5; simp only [hcl])
                | (go_at_call 17; refine (rints_any a5 a7 j _ _ (cntsP P2) w5 hcl HK.out.1.2 HI5.out (ints_below HI.out HB5.out)).mono ?_; rintro e w6 ⟨rfl, hb6⟩; have HB6 := Hid.mk9 (below2 HB5.out hb6); clear hb6))
              exact ⟨⟨n + 1, P2, t2, by omega, by omega, by go_num, ⟨HS3.out.1.below HB6.out, HS2.out.2.1, HS2.out.2.2.1, HS3.out.2.1.below HB6.out, HS3.out.2.2.trans (HB6.out.mono HS3.out.2.2.size)⟩⟩, by simp [intOf]; omega⟩
        · by_cases d2 : dd = 2
          · subst d2
            clear d0 d1
            obtain ⟨P2, t2, x, y, z2, hP2⟩ : ∃ P2 t2 x y z2, nextS P t = (P2, t2, x, y, z2) := ⟨_, _, _, _, _, rfl⟩
            have HF2 : Hid (FineP k R P2 ∧ t2 < k) := ⟨by have := nextS_fine HS.out.2.1 HS.out.2.2.1; rw [hP2] at this; exact this⟩
            have HCp := Hid.mk9 (next_any HS.out.1 (by rw [HS.out.2.1.1]; exact HK.out.1.2) (by rw [HS.out.2.1.1]; exact HS.out.2.2.1))
            rw [hP2] at HCp
            go_upto_region 23 with (go_at_call 13; refine HCp.out.mono ?_; rintro e wC ⟨rfl, hTC, hbC, hkC, -⟩)
            have HA1 := HS.out.2.2.2.1.kpt hkC HS.out.1
            obtain ⟨ra, c, hx, hr⟩ := HA1
            have HCr : Hid (Calls Try.prog 14 #[.agg #[.slice ra k c, .int .i64 R, .int .i64 t]] wC fun e w' => RnPost R (P2, t2, x, y, z2) wC e w') := ⟨by
              have := rnext_any ra k c P R t wC hr HK.out.1.2 HK.out.1.1 HK.out.2.2 HS.out.2.1.2 HS.out.2.2.1
              rw [hP2] at this
              exact this⟩
            obtain ⟨g0, g1, g2⟩ := hx.cells
            have hkP : Hid (P2.length = k) := ⟨HF2.out.1.1⟩
            have HX9 := Hid.mk9 hx
            clear hx
            go_upto_region 24 with (go_at_call 14; refine HCr.out.mono ?_; rintro e wD ⟨hbD, v, rfl, hTv⟩; obtain ⟨ra2, c3, rfl, hRD⟩ := hTv.is hkP.out; clear hTv g0 g1 g2; have hx8 := HX9.out.below hbD; obtain ⟨g0, g1, g2⟩ := hx8.cells; obtain ⟨f0, f1, f2⟩ := hx8.frz)
            have hxD : Bx3 wD q9 30 (.slice ra k c) (.int .i64 R) (.int .i64 t) := HX9.out.below hbD
            have HS2 : Hid (TapAt w.heap.size (put3 wD q9 (.slice ra2 k c3) (.int .i64 R) (.int .i64 t2)) p P2 R t2 ∧ FineP k R P2 ∧ t2 < k ∧ AnsAt (put3 wD q9 (.slice ra2 k c3) (.int .i64 R) (.int .i64 t2)) q9 k R P2 t2 ∧ Below w.heap.size w (put3 wD q9 (.slice ra2 k c3) (.int .i64 R) (.int .i64 t2))) := ⟨(hTC.below hbD).put3 hxD _ _ _, HF2.out.1, HF2.out.2, ans_put hxD hRD, put3_below ((HS.out.2.2.2.2.trans hbC).trans (hbD.mono (HS.out.2.2.2.2.trans hbC).size)) HQ.out _ _ _⟩
            unfold put3 at HS2
            generalize World.setCell _ _ _ = Wt at HS2 ⊢
            clear HCp HCr hP2 HF2 hTC hbC hkC HX9 hkP hr hbD hxD hRD hx8 g0 g1 g2 f0 f1 f2
            clear HS h4 ha1 ha2 hbN
            go_wp2_with fail
            go_loopw [17, 18] (fun v m wr2 => ∃ j : Nat, j ≤ k ∧ m = .int .i64 j ∧ Hid (wr2.ownsRow Wt.heap.size 3 1 v j (intsV ((cntsP P2).take j)) ∧ Below Wt.heap.size Wt wr2)) (fun _ m _ => k - (intOf m).toNat)
            case atStart => exact ⟨0, Nat.zero_le _, rfl, ⟨own_empty Wt 3, below_alloc Wt _⟩⟩
            case round =>
              obtain ⟨j, hj, rfl, HO⟩ := hrel
              by_cases hjk : j < k
              · have j1 : (j : Int) < (k : Int) := by omega
                obtain ⟨ra, c, hx, hr⟩ := HS2.out.2.2.2.1.below HO.out.2
                obtain ⟨c0, -, -⟩ := hx.cells
                obtain ⟨b4, o4, rfl, a4, n4, m4, g4, hrow⟩ := hr.at hjk
                have hn4 := Hid.mk9 hrow.len
                clear hx hr hrow
                go_wp2_with (at_builtin; refine append_vs (w0 := Wt) Try.underlying44 info3z rfl (by decide) rfl _ _ rfl _ j (intsV ((cntsP P2).take j)) rfl (own_alloc HO.out.1 _) (HO.out.2.alloc HO.out.2.size _) _ 1 1 [.int .i64 n4] rfl (vs_lit _ _) (by intro u hu; simp at hu; subst hu; rfl) (by omega) (by decide) ?_; intro v9 w9 hO9 hb9 _; have HO9 := Hid.mk9 hO9; have HB9 := Hid.mk9 hb9; clear hO9 hb9)
                exact ⟨⟨j + 1, by omega, by go_num, ⟨by rw [cnts_take (by rw [HS2.out.2.1.1]; exact hjk), hn4.out]; exact HO9.out, HB9.out⟩⟩, by simp [intOf]; omega⟩
              · obtain rfl : j = k := by omega
                clear hjk hj
                obtain ⟨hO, hOb⟩ := HO.out
                rw [List.take_of_length_le (by rw [cntsP_len, HS2.out.2.1.1]; exact Nat.le_refl _)] at hO
                obtain ⟨a7, c7, rfl, hI⟩ := own_ints hO
                have HI := Hid.mk9 hI
                have HS3 : Hid (TapAt w.heap.size wr p P2 R t2 ∧ AnsAt wr q9 j R P2 t2 ∧ Below w.heap.size w wr) := ⟨HS2.out.1.below hOb, HS2.out.2.2.2.1.below hOb, HS2.out.2.2.2.2.trans (hOb.mono HS2.out.2.2.2.2.size)⟩
                have hcl : (cntsP P2).length = j := by rw [cntsP_len, HS2.out.2.1.1]
                clear HO hO hOb hI
                go_wp2_with (first
                  | (go_at_call 18; refine (counts_any w.heap.size p R t2 j P2 wr HS3.out.1 HS2.out.2.1.1 HK.out.1.2).mono ?_; rintro e w5 ⟨a5, rfl, ⟨hI5, -⟩, hb5⟩; have HI5 := Hid.mk9 hI5; have HB5 := Hid.mk9 hb5; clear hI5 hb5; simp only [hcl])
                  | (go_at_call 17; refine (rints_any a5 a7 j _ _ (cntsP P2) w5 hcl HK.out.1.2 HI5.out (ints_below HI.out HB5.out)).mono ?_; rintro e w6 ⟨rfl, hb6⟩; have HB6 := Hid.mk9 (below2 HB5.out hb6); clear hb6))
                exact ⟨⟨n + 1, P2, t2, by omega, by omega, by go_num, ⟨HS3.out.1.below HB6.out, HS2.out.2.1, HS2.out.2.2.1, HS3.out.2.1.below HB6.out, HS3.out.2.2.trans (HB6.out.mono HS3.out.2.2.size)⟩⟩, by simp [intOf]; omega⟩
          · have d9 : True := trivial
            have d3 : ¬ (dd = 0 ∨ dd = 1 ∨ dd = 2) := by omega
            obtain ⟨P2, x, y, hP2⟩ : ∃ P2 x y, spreadS P R nn = (P2, x, y) := ⟨_, _, _, rfl⟩
            have HF2 : Hid (FineP k R P2) := ⟨by have := spreadS_fine HS.out.2.1 nn; rw [hP2] at this; exact this⟩
            have HCp := Hid.mk9 (spread_any HS.out.1 (by rw [HS.out.2.1.1]; exact HK.out.1.2) (by rw [HS.out.2.1.1]; exact HK.out.1.1) nn)
            rw [hP2] at HCp
            clear d3
            have h5 : wr.cell? ⟨b, off + n * 3 + 2, none⟩ = some (.int .i64 nn) := by rw [cell_block (HS.out.2.2.2.2.block b hbN.out)]; exact ha2.out
            go_upto_region 14 with (go_at_call 15; refine HCp.out.mono ?_; rintro e wC ⟨rfl, hTC, hbC, hkC, -⟩)
            clear h5
            have HA1 := HS.out.2.2.2.1.kpt hkC HS.out.1
            obtain ⟨ra, c, hx, hr⟩ := HA1
            have HCr : Hid (Calls Try.prog 16 #[.agg #[.slice ra k c, .int .i64 R, .int .i64 t], .int .i64 nn] wC.drew fun e w' => RtPost P2 R t x y wC.drew e w') := ⟨by
              have := rspread_any ra k c P R t nn wC.drew (hr.below (below_drew wC)) HK.out.1.2 HK.out.1.1 HK.out.2.2 HS.out.2.1.2
              rw [hP2] at this
              exact this⟩
            refine acts_14 _ _ _ _ _ _ _ _ _ _ _ _ _ _ _ _ _ _ _ _ _ _ _ _ _ _ _ _ _ _ _ _ _ _ _ _ _ _ _ _ _ _ _ _ _ _ _ _ _ _ _ _ _ _ _ _ _ _ _ _ _ _ _ _ _ _ _ _ _ _ _ _ _ _ _ _ _ _ _ _ _ _ _ _ _ _ _ _ _ _ _ _ _ _ _ _ _ _ _ _ _ _ _ _ _ _ _ _ _ _ _ _ _ _ _ _ _ _ _ _ _ _ _ _ _ _ _ _ _ _ _ _ _ _ _ _ _ _ _ _ _ _ _ _ _ _ _ _ _ _ _ _ _ _ _ _ _ _ _ _ _ _ _ _ _ _ _ _ _ _ _ _ _ _ _ _ _ _ _ _ _ _ _ _ _ _ _ _ _ _ _ _ _ _ b off len cap n q9 k c ra nn x y P2 R t t w wC _ (HS.out.2.2.2.2.trans hbC) hbN n1 ha2 (Hid.mk9 hx) HQ (Hid.mk9 HF2.out.1) HCr ⟨fun u0 u1 u2 u3 u4 u5 u6 u7 u8 u9 u10 ra2 c3 wD hbD hxD hRD => ?_⟩
            dsimp only
            obtain ⟨t2, ht2⟩ : ∃ t2, t2 = t := ⟨_, rfl⟩
            have HS2 : Hid (TapAt w.heap.size (put3 wD q9 (.slice ra2 k c3) (.int .i64 R) (.int .i64 t)) p P2 R t2 ∧ FineP k R P2 ∧ t2 < k ∧ AnsAt (put3 wD q9 (.slice ra2 k c3) (.int .i64 R) (.int .i64 t)) q9 k R P2 t2 ∧ Below w.heap.size w (put3 wD q9 (.slice ra2 k c3) (.int .i64 R) (.int .i64 t))) := ⟨by rw [ht2]; exact (hTC.below hbD).put3 hxD _ _ _, HF2.out, by rw [ht2]; exact HS.out.2.2.1, by rw [ht2]; exact ans_put hxD hRD, put3_below ((HS.out.2.2.2.2.trans hbC).trans (hbD.mono (HS.out.2.2.2.2.trans hbC).size)) HQ.out _ _ _⟩
            generalize (put3 wD q9 (.slice ra2 k c3) (.int .i64 R) (.int .i64 t)) = Wt at *
            clear ht2 HCp HCr hP2 HF2 hTC hbC hkC hx hr hbD hxD hRD
            clear HS h4 ha1 ha2 hbN
            go_wp2_with fail
            go_loopw [17, 18] (fun v m wr2 => ∃ j : Nat, j ≤ k ∧ m = .int .i64 j ∧ Hid (wr2.ownsRow Wt.heap.size 3 1 v j (intsV ((cntsP P2).take j)) ∧ Below Wt.heap.size Wt wr2)) (fun _ m _ => k - (intOf m).toNat)
            case atStart => exact ⟨0, Nat.zero_le _, rfl, ⟨own_empty Wt 3, below_alloc Wt _⟩⟩
            case round =>
              obtain ⟨j, hj, rfl, HO⟩ := hrel
              by_cases hjk : j < k
              · have j1 : (j : Int) < (k : Int) := by omega
                obtain ⟨ra, c, hx, hr⟩ := HS2.out.2.2.2.1.below HO.out.2
                obtain ⟨c0, -, -⟩ := hx.cells
                obtain ⟨b4, o4, rfl, a4, n4, m4, g4, hrow⟩ := hr.at hjk
                have hn4 := Hid.mk9 hrow.len
                clear hx hr hrow
                go_wp2_with (at_builtin; refine append_vs (w0 := Wt) Try.underlying44 info3z rfl (by decide) rfl _ _ rfl _ j (intsV ((cntsP P2).take j)) rfl (own_alloc HO.out.1 _) (HO.out.2.alloc HO.out.2.size _) _ 1 1 [.int .i64 n4] rfl (vs_lit _ _) (by intro u hu; simp at hu; subst hu; rfl) (by omega) (by decide) ?_; intro v9 w9 hO9 hb9 _; have HO9 := Hid.mk9 hO9; have HB9 := Hid.mk9 hb9; clear hO9 hb9)
                exact ⟨⟨j + 1, by omega, by go_num, ⟨by rw [cnts_take (by rw [HS2.out.2.1.1]; exact hjk), hn4.out]; exact HO9.out, HB9.out⟩⟩, by simp [intOf]; omega⟩
              · obtain rfl : j = k := by omega
                clear hjk hj
                obtain ⟨hO, hOb⟩ := HO.out
                rw [List.take_of_length_le (by rw [cntsP_len, HS2.out.2.1.1]; exact Nat.le_refl _)] at hO
                obtain ⟨a7, c7, rfl, hI⟩ := own_ints hO
                have HI := Hid.mk9 hI
                have HS3 : Hid (TapAt w.heap.size wr p P2 R t2 ∧ AnsAt wr q9 j R P2 t2 ∧ Below w.heap.size w wr) := ⟨HS2.out.1.below hOb, HS2.out.2.2.2.1.below hOb, HS2.out.2.2.2.2.trans (hOb.mono HS2.out.2.2.2.2.size)⟩
                have hcl : (cntsP P2).length = j := by rw [cntsP_len, HS2.out.2.1.1]
                clear HO hO hOb hI
                go_wp2_with (first
                  | (go_at_call 18; refine (counts_any w.heap.size p R t2 j P2 wr HS3.out.1 HS2.out.2.1.1 HK.out.1.2).mono ?_; rintro e w5 ⟨a5, rfl, ⟨hI5, -⟩, hb5⟩; have HI5 := Hid.mk9 hI5; have HB5 := Hid.mk9 hb5; clear hI5 hb5; simp only [hcl])
                  | (go_at_call 17; refine (rints_any a5 a7 j _ _ (cntsP P2) w5 hcl HK.out.1.2 HI5.out (ints_below HI.out HB5.out)).mono ?_; rintro e w6 ⟨rfl, hb6⟩; have HB6 := Hid.mk9 (below2 HB5.out hb6); clear hb6))
                exact ⟨⟨n + 1, P2, t2, by omega, by omega, by go_num, ⟨HS3.out.1.below HB6.out, HS2.out.2.1, HS2.out.2.2.1, HS3.out.2.1.below HB6.out, HS3.out.2.2.trans (HB6.out.mono HS3.out.2.2.size)⟩⟩, by simp [intOf]; omega⟩
    · have hx9 : n = len ∨ n = 100 := by omega
      clear hlt
      rcases hx9 with rfl | rfl
      all_goals
        clear hn hn2
        go_wp2_with (go_at_call 8; refine (HAw.out _).mono ?_; rintro e w9 ⟨rfl, hb9⟩; have HE : Hid (Below w.heap.size w w9) := ⟨HS.out.2.2.2.2.trans (hb9.mono HS.out.2.2.2.2.size)⟩; clear hb9)
        all_goals
          go_ret
          exact ⟨rfl, HE.out⟩
theorem tapActs_any (a b : Int) (ad : Option Addr) (len cap : Nat) (z : List Ac) (w : World) (h : ActsAt w ad len cap z) : Calls Try.prog 3 #[.int .i64 a, .int .i64 b, .slice ad len cap] w fun e w' => e = .returned (.bool true) ∧ Below w.heap.size w w' := by
  cases hp : newP a b with
  | false => exact tapActs_bad a b _ w hp
  | true =>
    simp only [newP, Bool.and_eq_true, decide_eq_true_eq] at hp
    obtain ⟨k, rfl⟩ : ∃ k : Nat, a = k := ⟨a.toNat, by omega⟩
    obtain ⟨R, rfl⟩ : ∃ R : Nat, b = R := ⟨b.toNat, by omega⟩
    exact tapActs_good k R ad len cap z w (by omega) (by omega) h
end Go.Proofs.Ytpolehfkjpbofaa.Ta
