/-
  The contracts of the answer's Spans, trails and Same, and of the nodes' Same: whether they are alike.
  The contract of the answer's Same of nodes.
  The contract of the answer's Same: whether maps are alike.
-/
import Derived.Test.YtcncbjknfcjnmaaGreatPr17
namespace Go.Proofs.YtcncbjknfcjnmaaGreat.Tp
open Go.ChangeShapes Go.WideShapes Go.ChangeAt Go.RowKit
def eqBy {α : Type} (eq : α → α → Bool) : List α → List α → Bool
  | [], [] => true
  | a :: l, b :: r => eq a b && eqBy eq l r
  | _, _ => false
theorem eqBy_iff {α : Type} {eq : α → α → Bool} (h : ∀ a b, eq a b = true ↔ a = b) : ∀ l r : List α, eqBy eq l r = true ↔ l = r
  | [], [] => by simp [eqBy]
  | a :: l, b :: r => by simp [eqBy, h, eqBy_iff h l r]
  | [], b :: r => by simp [eqBy]
  | a :: l, [] => by simp [eqBy]
theorem eqBy_len {α : Type} {eq : α → α → Bool} : ∀ l r : List α, l.length ≠ r.length → eqBy eq l r = false
  | [], [], h => absurd rfl h
  | a :: l, b :: r, h => by simp [eqBy, eqBy_len l r (by simpa using h)]
  | [], b :: r, _ => rfl
  | a :: l, [], _ => rfl
theorem eqBy_all {α : Type} {eq : α → α → Bool} (z : α) : ∀ (l r : List α) (n : Nat), l.length = n → r.length = n → (∀ j, j < n → eq (l.getD j z) (r.getD j z) = true) → eqBy eq l r = true
  | [], [], _, _, _, _ => rfl
  | a :: l, b :: r, n, h1, h2, h => by
    have h0 := h 0 (by simp at h1; omega)
    have := eqBy_all z l r (n - 1) (by simp at h1; omega) (by simp at h2; omega) (fun j hj => by have := h (j + 1) (by omega); simpa using this)
    simp at h0
    simp [eqBy, h0, this]
  | [], b :: r, n, h1, h2, _ => by simp at h1 h2; omega
  | a :: l, [], n, h1, h2, _ => by simp at h1 h2; omega
theorem eqBy_no {α : Type} {eq : α → α → Bool} (z : α) : ∀ (l r : List α) (n k : Nat), l.length = n → r.length = n → k < n → eq (l.getD k z) (r.getD k z) = false → eqBy eq l r = false
  | [], [], n, k, h1, _, hk, _ => by simp at h1; omega
  | a :: l, b :: r, n, 0, h1, h2, hk, h => by simp at h; simp [eqBy, h]
  | a :: l, b :: r, n, k + 1, h1, h2, hk, h => by
    have := eqBy_no z l r (n - 1) k (by simp at h1; omega) (by simp at h2; omega) (by omega) (by simpa using h)
    simp [eqBy, this]
  | [], b :: r, n, k, h1, h2, hk, _ => by simp at h1; omega
  | a :: l, [], n, k, h1, h2, hk, _ => by simp at h2; omega
def tmB (a b : Tm) : Bool := decide (a.g = b.g) && decide (a.ns = b.ns)
def tmsB (l r : List Tm) : Bool := eqBy tmB l r
def trB (a b : Tr) : Bool := decide (a.since = b.since) && tmsB a.past b.past
def trsB (l r : List Tr) : Bool := eqBy trB l r
theorem tmB_iff (a b : Tm) : tmB a b = true ↔ a = b := by
  cases a; cases b; simp [tmB]
theorem tmsB_iff (l r : List Tm) : tmsB l r = true ↔ l = r := eqBy_iff tmB_iff l r
theorem trB_iff (a b : Tr) : trB a b = true ↔ a = b := by
  cases a; cases b; simp [trB, tmsB_iff]
theorem trsB_iff (l r : List Tr) : trsB l r = true ↔ l = r := eqBy_iff trB_iff l r
set_option maxHeartbeats 2000000 in
set_option maxRecDepth 60000 in
theorem refSpans (a b : Option Addr) (la ca lb cb : Nat) (l r : List Tm) (w : World) (hl : TmsAt w a la ca l) (hr : TmsAt w b lb cb r) :
    Calls Tryz.prog 58 #[.slice a la ca, .slice b lb cb] w fun e w' => e = .returned (.bool (tmsB l r)) ∧ Grown w w' := by
  have hla := hl.1
  have hlb := hr.1
  have hma : la ≤ maxLen := Nat.le_trans hl.2.1 hl.2.2.1
  unfold maxLen at hma
  have HL : Hid (TmsAt w a la ca l) := hl
  have HR : Hid (TmsAt w b lb cb r) := hr
  clear hl hr
  by_cases hn : la = lb
  · subst hn
    have HE : Hid ((∀ j, j < la → tmB (l.getD j tm0) (r.getD j tm0) = true) → tmsB l r = true) := fun h => eqBy_all tm0 l r la hla hlb h
    have HNE : Hid (∀ j, j < la → tmB (l.getD j tm0) (r.getD j tm0) = false → tmsB l r = false) := fun j hj h => eqBy_no tm0 l r la j hla hlb hj h
    generalize tmsB l r = q at *
    clear hla hlb
    go_enter Tryz.func58, Tryz.ntmps58
    go_wp2_with fail
    go_loopw [5] (fun i wr => ∃ k : Nat, k ≤ la ∧ i = .int .i64 k ∧ Grown w wr ∧ Hid (∀ j, j < k → tmB (l.getD j tm0) (r.getD j tm0) = true)) (fun i _ => la - (intOf i).toNat)
    case atStart => exact ⟨0, Nat.zero_le _, rfl, grown_refl _, fun j hj => absurd hj (Nat.not_lt_zero _)⟩
    case round =>
      obtain ⟨k, hk, rfl, hgr, hT⟩ := hrel
      by_cases hlt : k < la
      · have hk1 : (k : Int) < (la : Int) := by omega
        have hk0 : (0 : Int) ≤ (k : Int) := by omega
        obtain ⟨p, po, rfl, hp, hcp⟩ := (HL.out.below (grown_below hgr)).some (by omega)
        obtain ⟨q2, qo, rfl, hq, hcq⟩ := (HR.out.below (grown_below hgr)).some (by omega)
        obtain ⟨u0, ua, ul, uc, u1, hu⟩ := hcp k hlt
        obtain ⟨v0, va, vl, vc, v1, hv⟩ := hcq k hlt
        have x0 := cell_grown (a := ⟨p, po + k * 2, none⟩) hp u0
        have x1 := cell_grown (a := ⟨p, po + k * 2 + 1, none⟩) hp u1
        have y0 := cell_grown (a := ⟨q2, qo + k * 2, none⟩) hq v0
        have y1 := cell_grown (a := ⟨q2, qo + k * 2 + 1, none⟩) hq v1
        have HG : Hid (∀ n os, Grown w (Go.Sort.grow (wr.drewN n) os)) := fun n os => grown2 hgr ⟨n, os, rfl⟩
        have HGW : Hid (∀ n os, Grown wr (Go.Sort.grow (wr.drewN n) os)) := fun n os => ⟨n, os, rfl⟩
        have HC : Hid (∀ W, Grown wr W → Calls Tryz.prog 22 #[.slice ua ul uc, .slice va vl vc] W fun e w' => e = .returned (.bool (decide ((l.getD k tm0).ns = (r.getD k tm0).ns))) ∧ Grown W w') := fun W hW => refInts ua va ul uc vl vc _ _ W (hu.below (grown_below hW)) (hv.below (grown_below hW))
        have HNX : Hid (tmB (l.getD k tm0) (r.getD k tm0) = true → ∀ j, j < k + 1 → tmB (l.getD j tm0) (r.getD j tm0) = true) := fun h j hj => by
          by_cases e : j = k
          · rw [e]; exact h
          · exact hT.out j (by omega)
        have HNK := HNE.out k hlt
        have HEB : Hid (tmB (l.getD k tm0) (r.getD k tm0) = (decide ((l.getD k tm0).g = (r.getD k tm0).g) && decide ((l.getD k tm0).ns = (r.getD k tm0).ns))) := rfl
        rw [HEB.out] at HNX HNK
        clear hcp hcq hT hu hv HEB u0 u1 v0 v1
        generalize decide ((l.getD k tm0).ns = (r.getD k tm0).ns) = qc at *
        generalize (l.getD k tm0).g = y at *
        generalize (r.getD k tm0).g = z' at *
        by_cases hyz : y = z'
        · subst hyz
          cases qc with
          | true =>
            have HX : Hid (∀ j, j < k + 1 → tmB (l.getD j tm0) (r.getD j tm0) = true) := HNX.out (by simp)
            clear HNX HNK
            go_wp2_with fail
            refine wp_region_QW mixed5 (by kernel_rfl) ?_
            repeat (refine QW_step (fun K hK => ?_); go_simp; first | (refine hK _ ?_; clear hK K) | (apply Exists.intro; refine ⟨fun _ => ?_, hK _ ?_⟩; (go_at_call 22; refine Calls.grown_of (HC.out _ (HGW.out _ _))); clear hK K))
            refine QW_nil ?_
            intro _ hw9
            obtain ⟨⟨nq, osq⟩, hw8⟩ := hw9
            subst hw8
            have hb := HG.out nq osq
            go_wp2_with fail
            exact ⟨⟨k + 1, by omega, by go_num, hb, HX⟩, by simp [intOf]; omega⟩
          | false =>
            have hq0 : q = false := HNK (by simp)
            subst hq0
            clear HNX HNK HE HNE
            go_wp2_with fail
            refine wp_region_QW mixed5 (by kernel_rfl) ?_
            repeat (refine QW_step (fun K hK => ?_); go_simp; first | (refine hK _ ?_; clear hK K) | (apply Exists.intro; refine ⟨fun _ => ?_, hK _ ?_⟩; (go_at_call 22; refine Calls.grown_of (HC.out _ (HGW.out _ _))); clear hK K))
            refine QW_nil ?_
            intro _ hw9
            obtain ⟨⟨nq, osq⟩, hw8⟩ := hw9
            subst hw8
            have hb := HG.out nq osq
            go_wp2_with fail
            go_ret
            exact ⟨rfl, hb⟩
        · have hyd : (y == z') = false := by simpa using hyz
          have hq0 : q = false := HNK (by simp [hyz])
          subst hq0
          clear HNX HNK HE HNE
          go_wp2_with fail
          refine wp_region_QW mixed5 (by kernel_rfl) ?_
          repeat (refine QW_step (fun K hK => ?_); go_simp; first | (refine hK _ ?_; clear hK K) | (apply Exists.intro; refine ⟨fun _ => ?_, hK _ ?_⟩; (go_at_call 22; refine Calls.grown_of (HC.out _ (HGW.out _ _))); clear hK K))
          refine QW_nil ?_
          intro _ hw9
          obtain ⟨⟨nq, osq⟩, hw8⟩ := hw9
          subst hw8
          have hb := HG.out nq osq
          go_wp2_with fail
          go_ret
          exact ⟨rfl, hb⟩
      · obtain rfl : k = la := by omega
        have hq0 : q = true := HE.out hT.out
        subst hq0
        clear HE HNE hT
        go_wp2_with fail
        go_ret
        exact ⟨rfl, hgr⟩
  · have hq0 : tmsB l r = false := eqBy_len l r (by omega)
    rw [hq0]
    have hnd : (la == lb) = false := by simpa using hn
    have hnd' : ((la : Int) == (lb : Int)) = false := beq_eq_false_iff_ne.2 (by omega)
    clear hq0 hla hlb
    go_enter Tryz.func58, Tryz.ntmps58
    go_wp2_with fail
    go_ret
    exact ⟨rfl, grown_refl _⟩
set_option maxHeartbeats 2000000 in
set_option maxRecDepth 60000 in
theorem refTrails (a b : Option Addr) (la ca lb cb : Nat) (l r : List Tr) (w : World) (hl : TrsAt w a la ca l) (hr : TrsAt w b lb cb r) :
    Calls Tryz.prog 32 #[.slice a la ca, .slice b lb cb] w fun e w' => e = .returned (.bool (trsB l r)) ∧ Grown w w' := by
  have hla := hl.1
  have hlb := hr.1
  have hma : la ≤ maxLen := Nat.le_trans hl.2.1 hl.2.2.1
  unfold maxLen at hma
  have HL : Hid (TrsAt w a la ca l) := hl
  have HR : Hid (TrsAt w b lb cb r) := hr
  clear hl hr
  by_cases hn : la = lb
  · subst hn
    have HE : Hid ((∀ j, j < la → trB (l.getD j tr0) (r.getD j tr0) = true) → trsB l r = true) := fun h => eqBy_all tr0 l r la hla hlb h
    have HNE : Hid (∀ j, j < la → trB (l.getD j tr0) (r.getD j tr0) = false → trsB l r = false) := fun j hj h => eqBy_no tr0 l r la j hla hlb hj h
    generalize trsB l r = q at *
    clear hla hlb
    go_enter Tryz.func32, Tryz.ntmps32
    go_wp2_with fail
    go_loopw [5] (fun i wr => ∃ k : Nat, k ≤ la ∧ i = .int .i64 k ∧ Grown w wr ∧ Hid (∀ j, j < k → trB (l.getD j tr0) (r.getD j tr0) = true)) (fun i _ => la - (intOf i).toNat)
    case atStart => exact ⟨0, Nat.zero_le _, rfl, grown_refl _, fun j hj => absurd hj (Nat.not_lt_zero _)⟩
    case round =>
      obtain ⟨k, hk, rfl, hgr, hT⟩ := hrel
      by_cases hlt : k < la
      · have hk1 : (k : Int) < (la : Int) := by omega
        have hk0 : (0 : Int) ≤ (k : Int) := by omega
        obtain ⟨p, po, rfl, hp, hcp⟩ := (HL.out.below (grown_below hgr)).some (by omega)
        obtain ⟨q2, qo, rfl, hq, hcq⟩ := (HR.out.below (grown_below hgr)).some (by omega)
        obtain ⟨u0, ua, ul, uc, u1, hu⟩ := hcp k hlt
        obtain ⟨v0, va, vl, vc, v1, hv⟩ := hcq k hlt
        have x0 := cell_grown (a := ⟨p, po + k * 2, none⟩) hp u0
        have x1 := cell_grown (a := ⟨p, po + k * 2 + 1, none⟩) hp u1
        have y0 := cell_grown (a := ⟨q2, qo + k * 2, none⟩) hq v0
        have y1 := cell_grown (a := ⟨q2, qo + k * 2 + 1, none⟩) hq v1
        have HG : Hid (∀ n os, Grown w (Go.Sort.grow (wr.drewN n) os)) := fun n os => grown2 hgr ⟨n, os, rfl⟩
        have HGW : Hid (∀ n os, Grown wr (Go.Sort.grow (wr.drewN n) os)) := fun n os => ⟨n, os, rfl⟩
        have HC : Hid (∀ W, Grown wr W → Calls Tryz.prog 58 #[.slice ua ul uc, .slice va vl vc] W fun e w' => e = .returned (.bool (tmsB (l.getD k tr0).past (r.getD k tr0).past)) ∧ Grown W w') := fun W hW => refSpans ua va ul uc vl vc _ _ W (hu.below (grown_below hW)) (hv.below (grown_below hW))
        have HNX : Hid (trB (l.getD k tr0) (r.getD k tr0) = true → ∀ j, j < k + 1 → trB (l.getD j tr0) (r.getD j tr0) = true) := fun h j hj => by
          by_cases e : j = k
          · rw [e]; exact h
          · exact hT.out j (by omega)
        have HNK := HNE.out k hlt
        have HEB : Hid (trB (l.getD k tr0) (r.getD k tr0) = (decide ((l.getD k tr0).since = (r.getD k tr0).since) && tmsB (l.getD k tr0).past (r.getD k tr0).past)) := rfl
        rw [HEB.out] at HNX HNK
        clear hcp hcq hT hu hv HEB u0 u1 v0 v1
        generalize tmsB (l.getD k tr0).past (r.getD k tr0).past = qc at *
        generalize (l.getD k tr0).since = y at *
        generalize (r.getD k tr0).since = z' at *
        by_cases hyz : y = z'
        · subst hyz
          cases qc with
          | true =>
            have HX : Hid (∀ j, j < k + 1 → trB (l.getD j tr0) (r.getD j tr0) = true) := HNX.out (by simp)
            clear HNX HNK
            go_wp2_with fail
            refine wp_region_QW mixed5 (by kernel_rfl) ?_
            repeat (refine QW_step (fun K hK => ?_); go_simp; first | (refine hK _ ?_; clear hK K) | (apply Exists.intro; refine ⟨fun _ => ?_, hK _ ?_⟩; (go_at_call 58; refine Calls.grown_of (HC.out _ (HGW.out _ _))); clear hK K))
            refine QW_nil ?_
            intro _ hw9
            obtain ⟨⟨nq, osq⟩, hw8⟩ := hw9
            subst hw8
            have hb := HG.out nq osq
            go_wp2_with fail
            exact ⟨⟨k + 1, by omega, by go_num, hb, HX⟩, by simp [intOf]; omega⟩
          | false =>
            have hq0 : q = false := HNK (by simp)
            subst hq0
            clear HNX HNK HE HNE
            go_wp2_with fail
            refine wp_region_QW mixed5 (by kernel_rfl) ?_
            repeat (refine QW_step (fun K hK => ?_); go_simp; first | (refine hK _ ?_; clear hK K) | (apply Exists.intro; refine ⟨fun _ => ?_, hK _ ?_⟩; (go_at_call 58; refine Calls.grown_of (HC.out _ (HGW.out _ _))); clear hK K))
            refine QW_nil ?_
            intro _ hw9
            obtain ⟨⟨nq, osq⟩, hw8⟩ := hw9
            subst hw8
            have hb := HG.out nq osq
            go_wp2_with fail
            go_ret
            exact ⟨rfl, hb⟩
        · have hyd : (y == z') = false := by simpa using hyz
          have hq0 : q = false := HNK (by simp [hyz])
          subst hq0
          clear HNX HNK HE HNE
          go_wp2_with fail
          refine wp_region_QW mixed5 (by kernel_rfl) ?_
          repeat (refine QW_step (fun K hK => ?_); go_simp; first | (refine hK _ ?_; clear hK K) | (apply Exists.intro; refine ⟨fun _ => ?_, hK _ ?_⟩; (go_at_call 58; refine Calls.grown_of (HC.out _ (HGW.out _ _))); clear hK K))
          refine QW_nil ?_
          intro _ hw9
          obtain ⟨⟨nq, osq⟩, hw8⟩ := hw9
          subst hw8
          have hb := HG.out nq osq
          go_wp2_with fail
          go_ret
          exact ⟨rfl, hb⟩
      · obtain rfl : k = la := by omega
        have hq0 : q = true := HE.out hT.out
        subst hq0
        clear HE HNE hT
        go_wp2_with fail
        go_ret
        exact ⟨rfl, hgr⟩
  · have hq0 : trsB l r = false := eqBy_len l r (by omega)
    rw [hq0]
    have hnd : (la == lb) = false := by simpa using hn
    have hnd' : ((la : Int) == (lb : Int)) = false := beq_eq_false_iff_ne.2 (by omega)
    clear hq0 hla hlb
    go_enter Tryz.func32, Tryz.ntmps32
    go_wp2_with fail
    go_ret
    exact ⟨rfl, grown_refl _⟩
def ndB (a b : Nd) : Bool := decide (a.id = b.id) && decide (a.zone = b.zone) && decide (a.rack = b.rack) && decide (a.weight = b.weight) && (a.up == b.up) && (a.inn == b.inn)
def ndsB (l r : List Nd) : Bool := eqBy ndB l r
theorem ndB_iff (a b : Nd) : ndB a b = true ↔ a = b := by
  cases a; cases b; simp [ndB]; constructor
  · rintro ⟨⟨⟨⟨⟨h1, h2⟩, h3⟩, h4⟩, h5⟩, h6⟩; exact ⟨h1, h2, h3, h4, h5, h6⟩
  · rintro ⟨h1, h2, h3, h4, h5, h6⟩; exact ⟨⟨⟨⟨⟨h1, h2⟩, h3⟩, h4⟩, h5⟩, h6⟩
theorem ndsB_iff (l r : List Nd) : ndsB l r = true ↔ l = r := eqBy_iff ndB_iff l r
end Go.Proofs.YtcncbjknfcjnmaaGreat.Tp
namespace Go.Proofs.YtcncbjknfcjnmaaGreat.Tp
open Go.ChangeShapes Go.WideShapes Go.ChangeAt Go.RowKit
set_option maxHeartbeats 2000000 in
set_option maxRecDepth 60000 in
theorem refNodes (a b : Option Addr) (la ca lb cb : Nat) (l r : List Nd) (w : World) (hl : NdsAt w a la ca l) (hr : NdsAt w b lb cb r) :
    Calls Tryz.prog 31 #[.slice a la ca, .slice b lb cb] w fun e w' => e = .returned (.bool (ndsB l r)) ∧ Grown w w' := by
  have hla := hl.1
  have hlb := hr.1
  have hma : la ≤ maxLen := Nat.le_trans hl.2.1 hl.2.2.1
  unfold maxLen at hma
  have HL : Hid (NdsAt w a la ca l) := hl
  have HR : Hid (NdsAt w b lb cb r) := hr
  clear hl hr
  by_cases hn : la = lb
  · subst hn
    have HE : Hid ((∀ j, j < la → ndB (l.getD j nd0) (r.getD j nd0) = true) → ndsB l r = true) := fun h => eqBy_all nd0 l r la hla hlb h
    have HNE : Hid (∀ j, j < la → ndB (l.getD j nd0) (r.getD j nd0) = false → ndsB l r = false) := fun j hj h => eqBy_no nd0 l r la j hla hlb hj h
    generalize ndsB l r = q at *
    clear hla hlb
    go_enter Tryz.func31, Tryz.ntmps31
    go_wp2_with fail
    go_loopw [5] (fun i wr => ∃ k : Nat, k ≤ la ∧ i = .int .i64 k ∧ Grown w wr ∧ Hid (∀ j, j < k → ndB (l.getD j nd0) (r.getD j nd0) = true)) (fun i _ => la - (intOf i).toNat)
    case atStart => exact ⟨0, Nat.zero_le _, rfl, grown_refl _, fun j hj => absurd hj (Nat.not_lt_zero _)⟩
    case round =>
      obtain ⟨k, hk, rfl, hgr, hT⟩ := hrel
      by_cases hlt : k < la
      · have hk1 : (k : Int) < (la : Int) := by omega
        have hk0 : (0 : Int) ≤ (k : Int) := by omega
        obtain ⟨p, po, rfl, hp, hcp⟩ := (HL.out.below (grown_below hgr)).some (by omega)
        obtain ⟨q2, qo, rfl, hq, hcq⟩ := (HR.out.below (grown_below hgr)).some (by omega)
        obtain ⟨u0, u1, u2, u3, u4, u5⟩ := hcp k hlt
        obtain ⟨v0, v1, v2, v3, v4, v5⟩ := hcq k hlt
        have x0 := cell_grown (a := ⟨p, po + k * 6, none⟩) hp u0
        have y0 := cell_grown (a := ⟨q2, qo + k * 6, none⟩) hq v0
        have x1 := cell_grown (a := ⟨p, po + k * 6 + 1, none⟩) hp u1
        have y1 := cell_grown (a := ⟨q2, qo + k * 6 + 1, none⟩) hq v1
        have x2 := cell_grown (a := ⟨p, po + k * 6 + 2, none⟩) hp u2
        have y2 := cell_grown (a := ⟨q2, qo + k * 6 + 2, none⟩) hq v2
        have x3 := cell_grown (a := ⟨p, po + k * 6 + 3, none⟩) hp u3
        have y3 := cell_grown (a := ⟨q2, qo + k * 6 + 3, none⟩) hq v3
        have x4 := cell_grown (a := ⟨p, po + k * 6 + 4, none⟩) hp u4
        have y4 := cell_grown (a := ⟨q2, qo + k * 6 + 4, none⟩) hq v4
        have x5 := cell_grown (a := ⟨p, po + k * 6 + 5, none⟩) hp u5
        have y5 := cell_grown (a := ⟨q2, qo + k * 6 + 5, none⟩) hq v5
        have HG : Hid (∀ n os, Grown w (Go.Sort.grow (wr.drewN n) os)) := fun n os => grown2 hgr ⟨n, os, rfl⟩
        have HNX : Hid (ndB (l.getD k nd0) (r.getD k nd0) = true → ∀ j, j < k + 1 → ndB (l.getD j nd0) (r.getD j nd0) = true) := fun h j hj => by
          by_cases e : j = k
          · rw [e]; exact h
          · exact hT.out j (by omega)
        have HNK := HNE.out k hlt
        clear hcp hcq hT u0 u1 u2 u3 u4 u5 v0 v1 v2 v3 v4 v5
        generalize l.getD k nd0 = X at *
        generalize r.getD k nd0 = Y at *
        cases hB : ndB X Y with
        | true =>
          obtain rfl := (ndB_iff X Y).1 hB
          have HX : Hid (∀ j, j < k + 1 → ndB (l.getD j nd0) (r.getD j nd0) = true) := HNX.out hB
          obtain ⟨c1, c2, c3, c4, c5, c6⟩ := X
          simp only at x0 x1 x2 x3 x4 x5 y0 y1 y2 y3 y4 y5
          clear HNX HNK hB
          go_wp2_with fail
          refine wp_region_QW mixed5 (by kernel_rfl) ?_
          repeat (refine QW_step (fun K hK => ?_); go_simp; first | (refine hK _ ?_; clear hK K) | (apply Exists.intro; refine ⟨fun _ => ?_, hK _ ?_⟩; fail; clear hK K))
          refine QW_nil ?_
          intro _ hw9
          obtain ⟨⟨nq, osq⟩, hw8⟩ := hw9
          subst hw8
          have hb := HG.out nq osq
          go_wp2_with fail
          exact ⟨⟨k + 1, by omega, by go_num, hb, HX⟩, by simp [intOf]; omega⟩
        | false =>
          have hq0 : q = false := HNK hB
          subst hq0
          obtain ⟨c1, c2, c3, c4, c5, c6⟩ := X
          obtain ⟨d1, d2, d3, d4, d5, d6⟩ := Y
          simp only at x0 x1 x2 x3 x4 x5 y0 y1 y2 y3 y4 y5
          clear HNX HNK HE HNE
          by_cases h1 : c1 = d1
          · subst h1
            by_cases h2 : c2 = d2
            · subst h2
              by_cases h3 : c3 = d3
              · subst h3
                by_cases h4 : c4 = d4
                · subst h4
                  by_cases h5 : c5 = d5
                  · subst h5
                    by_cases h6 : c6 = d6
                    · subst h6
                      exact absurd hB (by simp [ndB])
                    · have e6 : (c6 == d6) = false := by simpa using h6
                      clear hB
                      go_wp2_with fail
                      refine wp_region_QW mixed5 (by kernel_rfl) ?_
                      repeat (refine QW_step (fun K hK => ?_); go_simp; first | (refine hK _ ?_; clear hK K) | (apply Exists.intro; refine ⟨fun _ => ?_, hK _ ?_⟩; fail; clear hK K))
                      refine QW_nil ?_
                      intro _ hw9
                      obtain ⟨⟨nq, osq⟩, hw8⟩ := hw9
                      subst hw8
                      have hb := HG.out nq osq
                      go_wp2_with fail
                      go_ret
                      exact ⟨rfl, hb⟩
                  · have e5 : (c5 == d5) = false := by simpa using h5
                    clear hB
                    go_wp2_with fail
                    refine wp_region_QW mixed5 (by kernel_rfl) ?_
                    repeat (refine QW_step (fun K hK => ?_); go_simp; first | (refine hK _ ?_; clear hK K) | (apply Exists.intro; refine ⟨fun _ => ?_, hK _ ?_⟩; fail; clear hK K))
                    refine QW_nil ?_
                    intro _ hw9
                    obtain ⟨⟨nq, osq⟩, hw8⟩ := hw9
                    subst hw8
                    have hb := HG.out nq osq
                    go_wp2_with fail
                    go_ret
                    exact ⟨rfl, hb⟩
                · have e4 : (c4 == d4) = false := by simpa using h4
                  clear hB
                  go_wp2_with fail
                  refine wp_region_QW mixed5 (by kernel_rfl) ?_
                  repeat (refine QW_step (fun K hK => ?_); go_simp; first | (refine hK _ ?_; clear hK K) | (apply Exists.intro; refine ⟨fun _ => ?_, hK _ ?_⟩; fail; clear hK K))
                  refine QW_nil ?_
                  intro _ hw9
                  obtain ⟨⟨nq, osq⟩, hw8⟩ := hw9
                  subst hw8
                  have hb := HG.out nq osq
                  go_wp2_with fail
                  go_ret
                  exact ⟨rfl, hb⟩
              · have e3 : (c3 == d3) = false := by simpa using h3
                clear hB
                go_wp2_with fail
                refine wp_region_QW mixed5 (by kernel_rfl) ?_
                repeat (refine QW_step (fun K hK => ?_); go_simp; first | (refine hK _ ?_; clear hK K) | (apply Exists.intro; refine ⟨fun _ => ?_, hK _ ?_⟩; fail; clear hK K))
                refine QW_nil ?_
                intro _ hw9
                obtain ⟨⟨nq, osq⟩, hw8⟩ := hw9
                subst hw8
                have hb := HG.out nq osq
                go_wp2_with fail
                go_ret
                exact ⟨rfl, hb⟩
            · have e2 : (c2 == d2) = false := by simpa using h2
              clear hB
              go_wp2_with fail
              refine wp_region_QW mixed5 (by kernel_rfl) ?_
              repeat (refine QW_step (fun K hK => ?_); go_simp; first | (refine hK _ ?_; clear hK K) | (apply Exists.intro; refine ⟨fun _ => ?_, hK _ ?_⟩; fail; clear hK K))
              refine QW_nil ?_
              intro _ hw9
              obtain ⟨⟨nq, osq⟩, hw8⟩ := hw9
              subst hw8
              have hb := HG.out nq osq
              go_wp2_with fail
              go_ret
              exact ⟨rfl, hb⟩
          · have e1 : (c1 == d1) = false := by simpa using h1
            clear hB
            go_wp2_with fail
            refine wp_region_QW mixed5 (by kernel_rfl) ?_
            repeat (refine QW_step (fun K hK => ?_); go_simp; first | (refine hK _ ?_; clear hK K) | (apply Exists.intro; refine ⟨fun _ => ?_, hK _ ?_⟩; fail; clear hK K))
            refine QW_nil ?_
            intro _ hw9
            obtain ⟨⟨nq, osq⟩, hw8⟩ := hw9
            subst hw8
            have hb := HG.out nq osq
            go_wp2_with fail
            go_ret
            exact ⟨rfl, hb⟩
      · obtain rfl : k = la := by omega
        have hq0 : q = true := HE.out hT.out
        subst hq0
        clear HE HNE hT
        go_wp2_with fail
        go_ret
        exact ⟨rfl, hgr⟩
  · have hq0 : ndsB l r = false := eqBy_len l r (by omega)
    rw [hq0]
    have hnd : (la == lb) = false := by simpa using hn
    have hnd' : ((la : Int) == (lb : Int)) = false := beq_eq_false_iff_ne.2 (by omega)
    clear hq0 hla hlb
    go_enter Tryz.func31, Tryz.ntmps31
    go_wp2_with fail
    go_ret
    exact ⟨rfl, grown_refl _⟩
end Go.Proofs.YtcncbjknfcjnmaaGreat.Tp
namespace Go.Proofs.YtcncbjknfcjnmaaGreat.Tp
open Go.ChangeShapes Go.WideShapes Go.ChangeAt Go.RowKit
def mpB (m n : Mp) : Bool := decide (m.ep = n.ep) && decide (m.size = n.size) && decide (m.mn = n.mn) && decide (m.gr = n.gr) && ndsB m.nds n.nds && tmsB m.tms n.tms && trsB m.trs n.trs
theorem mpB_iff (m n : Mp) : mpB m n = true ↔ m = n := by
  cases m; cases n
  simp [mpB, ndsB_iff, tmsB_iff, trsB_iff]
  constructor
  · rintro ⟨⟨⟨⟨⟨⟨h1, h2⟩, h3⟩, h4⟩, h5⟩, h6⟩, h7⟩; exact ⟨h1, h2, h3, h4, h5, h6, h7⟩
  · rintro ⟨h1, h2, h3, h4, h5, h6, h7⟩; exact ⟨⟨⟨⟨⟨⟨h1, h2⟩, h3⟩, h4⟩, h5⟩, h6⟩, h7⟩
set_option maxHeartbeats 4000000 in
set_option maxRecDepth 60000 in
theorem refSame {m n : Mp} {s u : MV} (w : World) (hA : MapAt w m s) (hB : MapAt w n u) : Calls Tryz.prog 10 #[.agg (mapCells m s).toArray, .agg (mapCells n u).toArray] w fun e w' => e = .returned (.bool (mpB m n)) ∧ Grown w w' := by
  rw [map_split, map_split]
  obtain ⟨a0, a1, a2, a3, nds, tms, trs⟩ := m
  obtain ⟨b0, b1, b2, b3, nds', tms', trs'⟩ := n
  obtain ⟨aN, lN, cN, aT, lT, cT, aR, lR, cR⟩ := s
  obtain ⟨bN, mN, dN, bT, mT, dT, bR, mR, dR⟩ := u
  simp only at *
  obtain ⟨w1, hw1⟩ : ∃ w1, w1 = (w.alloc (.cells #[.int .i64 a0, .int .i64 a1, .int .i64 a2, .int .i64 a3, .slice aN lN cN, .slice aT lT cT, .slice aR lR cR] 26)).alloc (.cells #[.int .i64 b0, .int .i64 b1, .int .i64 b2, .int .i64 b3, .slice bN mN dN, .slice bT mT dT, .slice bR mR dR] 26) := ⟨_, rfl⟩
  have hg1 : Grown w w1 := by rw [hw1]; exact grown2 (grown_alloc _ _) (grown_alloc _ _)
  have HXA : Hid (Box7 w1 w.heap.size (.int .i64 a0) (.int .i64 a1) (.int .i64 a2) (.int .i64 a3) (.slice aN lN cN) (.slice aT lT cT) (.slice aR lR cR)) := by
    rw [hw1]
    exact (Box7.new w _ _ _ _ _ _ _ _).below (below_alloc _ _)
  have HXB : Hid (Box7 w1 (w.heap.size + 1) (.int .i64 b0) (.int .i64 b1) (.int .i64 b2) (.int .i64 b3) (.slice bN mN dN) (.slice bT mT dT) (.slice bR mR dR)) := by
    rw [hw1]
    have := Box7.new (w.alloc (.cells #[.int .i64 a0, .int .i64 a1, .int .i64 a2, .int .i64 a3, .slice aN lN cN, .slice aT lT cT, .slice aR lR cR] 26)) (.int .i64 b0) (.int .i64 b1) (.int .i64 b2) (.int .i64 b3) (.slice bN mN dN) (.slice bT mT dT) (.slice bR mR dR) 26
    rwa [show (w.alloc (.cells #[.int .i64 a0, .int .i64 a1, .int .i64 a2, .int .i64 a3, .slice aN lN cN, .slice aT lT cT, .slice aR lR cR] 26)).heap.size = w.heap.size + 1 by simp] at this
  have HND : Hid (∀ W, Grown w1 W → Calls Tryz.prog 31 #[.slice aN lN cN, .slice bN mN dN] W fun e w' => e = .returned (.bool (ndsB nds nds')) ∧ Grown W w') := fun W hg => refNodes aN bN lN cN mN dN nds nds' W (hA.nds.below (grown_below (grown2 hg1 hg))) (hB.nds.below (grown_below (grown2 hg1 hg)))
  have HTR : Hid (∀ W, Grown w1 W → Calls Tryz.prog 32 #[.slice aR lR cR, .slice bR mR dR] W fun e w' => e = .returned (.bool (trsB trs trs')) ∧ Grown W w') := fun W hg => refTrails aR bR lR cR mR dR trs trs' W (hA.trs.below (grown_below (grown2 hg1 hg))) (hB.trs.below (grown_below (grown2 hg1 hg)))
  have HTA : Hid (∀ W, Grown w1 W → TmsAt W aT lT cT tms) := fun W hg => hA.tms.below (grown_below (grown2 hg1 hg))
  have HTB : Hid (∀ W, Grown w1 W → TmsAt W bT mT dT tms') := fun W hg => hB.tms.below (grown_below (grown2 hg1 hg))
  have hlT : tms.length = lT := hA.tms.1
  have hmT : tms'.length = mT := hB.tms.1
  have hmax : lT ≤ maxLen := Nat.le_trans hA.tms.2.1 hA.tms.2.2.1
  unfold maxLen at hmax
  clear hA hB
  have F0 : a0 ≠ b0 → mpB ⟨a0, a1, a2, a3, nds, tms, trs⟩ ⟨b0, b1, b2, b3, nds', tms', trs'⟩ = false := fun h => by simp [mpB, h]
  have F1 : a1 ≠ b1 → mpB ⟨a0, a1, a2, a3, nds, tms, trs⟩ ⟨b0, b1, b2, b3, nds', tms', trs'⟩ = false := fun h => by simp [mpB, h]
  have F2 : a2 ≠ b2 → mpB ⟨a0, a1, a2, a3, nds, tms, trs⟩ ⟨b0, b1, b2, b3, nds', tms', trs'⟩ = false := fun h => by simp [mpB, h]
  have F3 : a3 ≠ b3 → mpB ⟨a0, a1, a2, a3, nds, tms, trs⟩ ⟨b0, b1, b2, b3, nds', tms', trs'⟩ = false := fun h => by simp [mpB, h]
  have F4 : ndsB nds nds' = false → mpB ⟨a0, a1, a2, a3, nds, tms, trs⟩ ⟨b0, b1, b2, b3, nds', tms', trs'⟩ = false := fun h => by simp [mpB, h]
  have F5 : Hid (tmsB tms tms' = false → mpB ⟨a0, a1, a2, a3, nds, tms, trs⟩ ⟨b0, b1, b2, b3, nds', tms', trs'⟩ = false) := fun h => by simp [mpB, h]
  have F6 : Hid (a0 = b0 → a1 = b1 → a2 = b2 → a3 = b3 → ndsB nds nds' = true → tmsB tms tms' = true → mpB ⟨a0, a1, a2, a3, nds, tms, trs⟩ ⟨b0, b1, b2, b3, nds', tms', trs'⟩ = trsB trs trs') := fun h0 h1 h2 h3 h4 h5 => by simp [mpB, h0, h1, h2, h3, h4, h5]
  generalize mpB ⟨a0, a1, a2, a3, nds, tms, trs⟩ ⟨b0, b1, b2, b3, nds', tms', trs'⟩ = QQ at *
  generalize ndsB nds nds' = qn at *
  generalize trsB trs trs' = qr at *
  have hlA := HXA.out.lt
  have hlB := HXB.out.lt
  obtain ⟨⟨c0, c1, c2, c3, c4, c5, c6⟩, -⟩ := HXA.out
  obtain ⟨⟨d0, d1, d2, d3, d4, d5, d6⟩, -⟩ := HXB.out
  by_cases h0 : a0 = b0
  · subst h0
    by_cases h1 : a1 = b1
    · subst h1
      by_cases h2 : a2 = b2
      · subst h2
        by_cases h3 : a3 = b3
        · subst h3
          cases qn with
          | false =>
            obtain rfl := F4 rfl
            clear F0 F1 F2 F3 F4 F5 F6
            go_enter Tryz.func10, Tryz.ntmps10
            go_upto_region 1 with fail
            rw [← hw1]
            clear hw1
            go_wp2_with (go_at_call 31; refine (HND.out _ (grown_refl _)).mono ?_; rintro e w2 ⟨rfl, hg2⟩)
            go_ret
            exact ⟨rfl, grown2 hg1 hg2⟩
          | true =>
            have F7 := show Hid (tmsB tms tms' = true → QQ = qr) from fun h => F6.out rfl rfl rfl rfl rfl h
            clear F0 F1 F2 F3 F4 F6
            by_cases hn : lT = mT
            · subst hn
              have HE : Hid ((∀ j, j < lT → tmB (tms.getD j tm0) (tms'.getD j tm0) = true) → tmsB tms tms' = true) := fun h => eqBy_all tm0 tms tms' lT hlT hmT h
              have HNE : Hid (∀ j, j < lT → tmB (tms.getD j tm0) (tms'.getD j tm0) = false → tmsB tms tms' = false) := fun j hj h => eqBy_no tm0 tms tms' lT j hlT hmT hj h
              generalize tmsB tms tms' = q at *
              clear hlT hmT
              go_enter Tryz.func10, Tryz.ntmps10
              go_upto_region 1 with fail
              rw [← hw1]
              clear hw1
              go_upto_region 2 with (go_at_call 31; refine (HND.out _ (grown_refl _)).mono ?_; rintro e w2 ⟨rfl, hg2⟩; obtain ⟨⟨p0, p1, p2, p3, p4, p5, p6⟩, -⟩ := HXA.out.below (grown_below hg2); obtain ⟨⟨q0, q1, q2, q3, q4, q5, q6⟩, -⟩ := HXB.out.below (grown_below hg2))
              go_wp2_with fail
              clear c0 c1 c2 c3 c4 c5 c6 d0 d1 d2 d3 d4 d5 d6 p0 p1 p2 p3 p4 p5 p6 q0 q1 q2 q3 q4 q5 q6
              go_loopw [5] (fun i wr => ∃ k : Nat, k ≤ lT ∧ i = .int .i64 k ∧ Grown w1 wr ∧ Hid (∀ j, j < k → tmB (tms.getD j tm0) (tms'.getD j tm0) = true)) (fun i _ => lT - (intOf i).toNat)
              case atStart => exact ⟨0, Nat.zero_le _, rfl, hg2, fun j hj => absurd hj (Nat.not_lt_zero _)⟩
              case round =>
                obtain ⟨k, hk, rfl, hgr, hT⟩ := hrel
                have hYA := HXA.out.below (grown_below hgr)
                have hYB := HXB.out.below (grown_below hgr)
                have hyA := hYA.lt
                have hyB := hYB.lt
                obtain ⟨⟨c0, c1, c2, c3, c4, c5, c6⟩, -⟩ := hYA
                obtain ⟨⟨d0, d1, d2, d3, d4, d5, d6⟩, -⟩ := hYB
                by_cases hlt : k < lT
                · have hk1 : (k : Int) < (lT : Int) := by omega
                  have hk0 : (0 : Int) ≤ (k : Int) := by omega
                  obtain ⟨p, po, rfl, hp, hcp⟩ := (HTA.out wr hgr).some (by omega)
                  obtain ⟨q2, qo, rfl, hq, hcq⟩ := (HTB.out wr hgr).some (by omega)
                  obtain ⟨u0, ua, ul, uc, u1, hu⟩ := hcp k hlt
                  obtain ⟨v0, va, vl, vc, v1, hv⟩ := hcq k hlt
                  have x0 := cell_grown (a := ⟨p, po + k * 2, none⟩) hp u0
                  have x1 := cell_grown (a := ⟨p, po + k * 2 + 1, none⟩) hp u1
                  have y0 := cell_grown (a := ⟨q2, qo + k * 2, none⟩) hq v0
                  have y1 := cell_grown (a := ⟨q2, qo + k * 2 + 1, none⟩) hq v1
                  have z5 := cell_grown (a := ⟨w.heap.size, 5, none⟩) hyA c5
                  have t5 := cell_grown (a := ⟨w.heap.size + 1, 5, none⟩) hyB d5
                  have HG : Hid (∀ n os, Grown w1 (Go.Sort.grow (wr.drewN n) os)) := fun n os => grown2 hgr ⟨n, os, rfl⟩
                  have HGW : Hid (∀ n os, Grown wr (Go.Sort.grow (wr.drewN n) os)) := fun n os => ⟨n, os, rfl⟩
                  have HC : Hid (∀ W, Grown wr W → Calls Tryz.prog 22 #[.slice ua ul uc, .slice va vl vc] W fun e w' => e = .returned (.bool (decide ((tms.getD k tm0).ns = (tms'.getD k tm0).ns))) ∧ Grown W w') := fun W hW => refInts ua va ul uc vl vc _ _ W (hu.below (grown_below hW)) (hv.below (grown_below hW))
                  have HNX : Hid (tmB (tms.getD k tm0) (tms'.getD k tm0) = true → ∀ j, j < k + 1 → tmB (tms.getD j tm0) (tms'.getD j tm0) = true) := fun h j hj => by
                    by_cases e : j = k
                    · rw [e]; exact h
                    · exact hT.out j (by omega)
                  have HNK := HNE.out k hlt
                  have HEB : Hid (tmB (tms.getD k tm0) (tms'.getD k tm0) = (decide ((tms.getD k tm0).g = (tms'.getD k tm0).g) && decide ((tms.getD k tm0).ns = (tms'.getD k tm0).ns))) := rfl
                  rw [HEB.out] at HNX HNK
                  clear hcp hcq hT hu hv HEB u0 u1 v0 v1
                  generalize decide ((tms.getD k tm0).ns = (tms'.getD k tm0).ns) = qc at *
                  generalize (tms.getD k tm0).g = y at *
                  generalize (tms'.getD k tm0).g = z' at *
                  by_cases hyz : y = z'
                  · subst hyz
                    cases qc with
                    | true =>
                      have HX : Hid (∀ j, j < k + 1 → tmB (tms.getD j tm0) (tms'.getD j tm0) = true) := HNX.out (by simp)
                      clear HNX HNK
                      go_wp2_with fail
                      refine wp_region_QW mixed5 (by kernel_rfl) ?_
                      repeat (refine QW_step (fun K hK => ?_); go_simp; first | (refine hK _ ?_; clear hK K) | (apply Exists.intro; refine ⟨fun _ => ?_, hK _ ?_⟩; (go_at_call 22; refine Calls.grown_of (HC.out _ (HGW.out _ _))); clear hK K))
                      refine QW_nil ?_
                      intro _ hw9
                      obtain ⟨⟨nq, osq⟩, hw8⟩ := hw9
                      subst hw8
                      have hb := HG.out nq osq
                      go_wp2_with fail
                      exact ⟨⟨k + 1, by omega, by go_num, hb, HX⟩, by simp [intOf]; omega⟩
                    | false =>
                      have hq0 : q = false := HNK (by simp)
                      subst hq0
                      obtain rfl := F5.out rfl
                      clear HNX HNK HE HNE F5 F7
                      go_wp2_with fail
                      refine wp_region_QW mixed5 (by kernel_rfl) ?_
                      repeat (refine QW_step (fun K hK => ?_); go_simp; first | (refine hK _ ?_; clear hK K) | (apply Exists.intro; refine ⟨fun _ => ?_, hK _ ?_⟩; (go_at_call 22; refine Calls.grown_of (HC.out _ (HGW.out _ _))); clear hK K))
                      refine QW_nil ?_
                      intro _ hw9
                      obtain ⟨⟨nq, osq⟩, hw8⟩ := hw9
                      subst hw8
                      have hb := HG.out nq osq
                      go_wp2_with fail
                      go_ret
                      exact ⟨rfl, grown2 hg1 hb⟩
                  · have hyd : (y == z') = false := by simpa using hyz
                    have hq0 : q = false := HNK (by simp [hyz])
                    subst hq0
                    obtain rfl := F5.out rfl
                    clear HNX HNK HE HNE F5 F7
                    go_wp2_with fail
                    refine wp_region_QW mixed5 (by kernel_rfl) ?_
                    repeat (refine QW_step (fun K hK => ?_); go_simp; first | (refine hK _ ?_; clear hK K) | (apply Exists.intro; refine ⟨fun _ => ?_, hK _ ?_⟩; (go_at_call 22; refine Calls.grown_of (HC.out _ (HGW.out _ _))); clear hK K))
                    refine QW_nil ?_
                    intro _ hw9
                    obtain ⟨⟨nq, osq⟩, hw8⟩ := hw9
                    subst hw8
                    have hb := HG.out nq osq
                    go_wp2_with fail
                    go_ret
                    exact ⟨rfl, grown2 hg1 hb⟩
                · obtain rfl : k = lT := by omega
                  have hq0 : q = true := HE.out hT.out
                  subst hq0
                  obtain rfl := F7.out rfl
                  clear HE HNE hT F5 F7
                  go_wp2_with (go_at_call 32; refine (HTR.out _ hgr).mono ?_; rintro e w3 ⟨rfl, hg3⟩)
                  go_ret
                  exact ⟨rfl, grown2 hg1 (grown2 hgr hg3)⟩
            · have hq0 : tmsB tms tms' = false := eqBy_len tms tms' (by omega)
              obtain rfl := F5.out hq0
              clear F5 F7
              have hnd : (lT == mT) = false := by simpa using hn
              have hnd' : ((lT : Int) == (mT : Int)) = false := beq_eq_false_iff_ne.2 (by omega)
              clear hq0 hlT hmT
              go_enter Tryz.func10, Tryz.ntmps10
              go_upto_region 1 with fail
              rw [← hw1]
              clear hw1
              go_wp2_with (go_at_call 31; refine (HND.out _ (grown_refl _)).mono ?_; rintro e w2 ⟨rfl, hg2⟩; obtain ⟨⟨p0, p1, p2, p3, p4, p5, p6⟩, -⟩ := HXA.out.below (grown_below hg2); obtain ⟨⟨q0, q1, q2, q3, q4, q5, q6⟩, -⟩ := HXB.out.below (grown_below hg2))
              go_ret
              exact ⟨rfl, grown2 hg1 hg2⟩
        · have e3 : (a3 == b3) = false := by simpa using h3
          obtain rfl := F3 h3
          clear F0 F1 F2 F3 F4 F5 F6
          go_enter Tryz.func10, Tryz.ntmps10
          go_upto_region 1 with fail
          rw [← hw1]
          clear hw1
          go_wp2_with fail
          go_ret
          exact ⟨rfl, hg1⟩
      · have e2 : (a2 == b2) = false := by simpa using h2
        obtain rfl := F2 h2
        clear F0 F1 F2 F3 F4 F5 F6
        go_enter Tryz.func10, Tryz.ntmps10
        go_upto_region 1 with fail
        rw [← hw1]
        clear hw1
        go_wp2_with fail
        go_ret
        exact ⟨rfl, hg1⟩
    · have e1 : (a1 == b1) = false := by simpa using h1
      obtain rfl := F1 h1
      clear F0 F1 F2 F3 F4 F5 F6
      go_enter Tryz.func10, Tryz.ntmps10
      go_upto_region 1 with fail
      rw [← hw1]
      clear hw1
      go_wp2_with fail
      go_ret
      exact ⟨rfl, hg1⟩
  · have e0 : (a0 == b0) = false := by simpa using h0
    obtain rfl := F0 h0
    clear F0 F1 F2 F3 F4 F5 F6
    go_enter Tryz.func10, Tryz.ntmps10
    go_upto_region 1 with fail
    rw [← hw1]
    clear hw1
    go_wp2_with fail
    go_ret
    exact ⟨rfl, hg1⟩
end Go.Proofs.YtcncbjknfcjnmaaGreat.Tp
