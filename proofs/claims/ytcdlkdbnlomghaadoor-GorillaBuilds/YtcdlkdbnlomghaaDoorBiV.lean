/-
  The answer Class, and how many bits lead.
-/
import Derived.Test.YtcdlkdbnlomghaaDoorBiU
import Derived.Test.YtcdlkdbnlomghaaDoorBiS
namespace Go.Proofs.YtcdlkdbnlomghaaDoor.Bi
open Go.ChangeShapes Go.WideShapes Go.ChangeAt Go.RowKit
theorem ones {f : Nat → Nat} {a : Nat} : ∀ {n : Nat}, (∀ i, i < n → f (a + i) = 1) → val f a n = 2 ^ n - 1
  | 0, _ => rfl
  | n + 1, h => by
    have h1 := ones (n := n) (fun i hi => h i (by omega))
    show 2 * val f a n + f (a + n) = _
    rw [h1, h n (by omega), Nat.pow_succ]
    have := Nat.two_pow_pos n
    omega
/-- so many bits are 1, no more than four, and no more of them there are -/
structure Lead (L : List Bool) (at' c : Nat) : Prop where
  le : c ≤ 4
  in_ : at' + c ≤ L.length
  one : ∀ j, j < c → bt L (at' + j) = 1
  stop : c = 4 ∨ at' + c = L.length ∨ bt L (at' + c) = 0
theorem ones_apart : ∀ j, j < 4 → 2 ^ hdT j - 1 ≠ hvT j := by decide
theorem hd_low : ∀ j, j < 4 → hdT j = j + 1 := by decide
theorem hv_low : ∀ j, j < 4 → 2 * (2 ^ j - 1) = hvT j := by decide
theorem Lead.less {L : List Bool} {at' c j : Nat} (h : Lead L at' c) (hj : j < c) : ¬ clsOk L at' j := fun hk => by
  have hle := h.le
  have h1 := hd_low j (by omega)
  have h2 : val (bt L) at' (hdT j) = 2 ^ hdT j - 1 := ones fun i hi => h.one i (by omega)
  exact ones_apart j (by omega) (h2.symm.trans hk.2)
theorem Lead.cls {L : List Bool} {at' c : Nat} (h : Lead L at' c) (hf : at' + hdT c ≤ L.length) : clsIs L at' c := by
  refine ⟨by have := h.le; omega, ⟨hf, ?_⟩, fun j hj => h.less hj⟩
  by_cases h4 : c = 4
  · subst h4
    exact ones (n := 4) h.one
  · have hlt : c < 4 := by have := h.le; omega
    have h1 := hd_low c hlt
    have hz : bt L (at' + c) = 0 := by
      rcases h.stop with h5 | h5 | h5
      · omega
      · omega
      · exact h5
    rw [h1]
    show 2 * val (bt L) at' c + bt L (at' + c) = hvT c
    rw [ones h.one, hz, Nat.add_zero, hv_low c hlt]
theorem Lead.none {L : List Bool} {at' c : Nat} (h : Lead L at' c) (hf : ¬ at' + hdT c ≤ L.length) (v : Int) (k : Nat) : ¬ NumIs L at' v k := by
  rintro ⟨j, h1, _⟩
  have hin := h.in_
  have hle := h.le
  have h4 : c < 4 := by
    by_cases e : c = 4
    · subst e
      exact absurd (show at' + hdT 4 ≤ L.length from hin) hf
    · omega
  have h2 := hd_low c h4
  have h3 := h1.2.1.1
  by_cases hj : j < c
  · exact h.less hj h1.2.1
  · have h5 := h1.1
    have h6 : j = 4 ∨ j < 4 := by omega
    rcases h6 with rfl | h6
    · have h7 : hdT 4 = 4 := rfl
      omega
    · have := hd_low j h6
      omega
theorem Lead.num {L : List Bool} {at' c u : Nat} (h : Lead L at' c) (hf : at' + szT c ≤ L.length) (hu : u = val (bt L) (at' + hdT c) (wdT c)) : (clsU u = c → NumIs L at' (gatherN u) (szT c)) ∧ (clsU u ≠ c → ∀ v k, ¬ NumIs L at' v k) := by
  have hc := h.cls (by unfold szT at hf; omega)
  refine ⟨fun e => ⟨c, hc, hf, rfl, by rw [← hu]; exact e, by rw [← hu]⟩, fun e v k hn => ?_⟩
  obtain ⟨d, h1, _, _, h4, _⟩ := hn
  obtain rfl := clsIs_one hc h1
  rw [← hu] at h4
  exact e h4
theorem Lead.short {L : List Bool} {at' c : Nat} (h : Lead L at' c) (hf : ¬ at' + szT c ≤ L.length) (v : Int) (k : Nat) : ¬ NumIs L at' v k := by
  by_cases h1 : at' + hdT c ≤ L.length
  · rintro ⟨d, h2, h3, _⟩
    obtain rfl := clsIs_one (h.cls h1) h2
    exact hf h3
  · exact h.none h1 v k
theorem sz_pos (c : Nat) (h : c < 5) : 0 < szT c := by have := hd_pos c h; unfold szT; omega
set_option maxHeartbeats 1000000 in
set_option maxRecDepth 60000 in
theorem rclass_any (n : Int) (h : inI n) (w : World) : Calls Tryd.prog 63 #[.int .i64 n] w fun e w' => e = .returned (.int .i64 ((clsU (foldN n) : Nat) : Int)) ∧ w' = w := by
  have HF := Hid.mk9 (fold_any n h w)
  obtain ⟨u, hu⟩ : ∃ u, u = foldN n := ⟨_, rfl⟩
  rw [← hu] at HF ⊢
  clear hu h
  by_cases h0 : u < 1
  · have HE : Hid (clsU u = 0) := if_pos h0
    have e0 : ((u : Int) == 0) = true := by rw [beq_iff_eq]; omega
    clear h0
    have e9 : True := trivial
    clear e9
    go_enter Tryd.func63, Tryd.ntmps63
    go_wp2_with (go_at_call 79; refine HF.out.mono ?_; rintro e w9 ⟨rfl, hw9⟩; obtain rfl := hw9.symm)
    go_ret
    exact ⟨by rw [HE.out]; rfl, rfl⟩
  have e0 : ((u : Int) == 0) = false := by rw [beq_eq_false_iff_ne]; omega
  by_cases h1 : u < 128
  · have HE : Hid (clsU u = 1) := by unfold Hid clsU; rw [if_neg h0, if_pos h1]
    have e1 : decide ((u : Int) < 128) = true := decide_eq_true (by omega)
    clear h0 h1
    have e9 : True := trivial
    clear e9
    go_enter Tryd.func63, Tryd.ntmps63
    go_wp2_with (go_at_call 79; refine HF.out.mono ?_; rintro e w9 ⟨rfl, hw9⟩; obtain rfl := hw9.symm)
    go_ret
    exact ⟨by rw [HE.out]; rfl, rfl⟩
  have e1 : decide ((u : Int) < 128) = false := decide_eq_false (by omega)
  by_cases h2 : u < 4096
  · have HE : Hid (clsU u = 2) := by unfold Hid clsU; rw [if_neg h0, if_neg h1, if_pos h2]
    have e2 : decide ((u : Int) < 4096) = true := decide_eq_true (by omega)
    clear h0 h1 h2
    have e9 : True := trivial
    clear e9
    go_enter Tryd.func63, Tryd.ntmps63
    go_wp2_with (go_at_call 79; refine HF.out.mono ?_; rintro e w9 ⟨rfl, hw9⟩; obtain rfl := hw9.symm)
    go_ret
    exact ⟨by rw [HE.out]; rfl, rfl⟩
  have e2 : decide ((u : Int) < 4096) = false := decide_eq_false (by omega)
  by_cases h3 : u < 1048576
  · have HE : Hid (clsU u = 3) := by unfold Hid clsU; rw [if_neg h0, if_neg h1, if_neg h2, if_pos h3]
    have e3 : decide ((u : Int) < 1048576) = true := decide_eq_true (by omega)
    clear h0 h1 h2 h3
    have e9 : True := trivial
    clear e9
    go_enter Tryd.func63, Tryd.ntmps63
    go_wp2_with (go_at_call 79; refine HF.out.mono ?_; rintro e w9 ⟨rfl, hw9⟩; obtain rfl := hw9.symm)
    go_ret
    exact ⟨by rw [HE.out]; rfl, rfl⟩
  have HE : Hid (clsU u = 4) := by unfold Hid clsU; rw [if_neg h0, if_neg h1, if_neg h2, if_neg h3]
  have e3 : decide ((u : Int) < 1048576) = false := decide_eq_false (by omega)
  clear h0 h1 h2 h3
  have e9 : True := trivial
  clear e9
  go_enter Tryd.func63, Tryd.ntmps63
  go_wp2_with (go_at_call 79; refine HF.out.mono ?_; rintro e w9 ⟨rfl, hw9⟩; obtain rfl := hw9.symm)
  go_ret
  exact ⟨by rw [HE.out]; rfl, rfl⟩
/-- a piece of a row of bools -/
theorem BoAt.sub {w : World} {a : Option Addr} {len cap : Nat} {l : List Bool} (h : BoAt w a len cap l) {k n : Nat} (hk : k + n ≤ len) : ∃ b off, (a = some ⟨b, off, none⟩ ∧ BoAt w (some ⟨b, off + k, none⟩) n (cap - k) ((l.drop k).take n)) ∨ n = 0 := by
  by_cases h0 : n = 0
  · exact ⟨0, 0, .inr h0⟩
  · obtain ⟨h1, h2, h3, h4⟩ := h
    rcases h4 with h4 | ⟨b, off, e, hc⟩
    · omega
    · refine ⟨b, off, .inl ⟨e, ?_, by omega, by omega, .inr ⟨b, off + k, rfl, fun i v hv => ?_⟩⟩⟩
      · rw [boV_len] at h1 ⊢; simp; omega
      · have hi : i < n := by
          have := (List.getElem?_eq_some_iff.1 hv).1
          rw [boV_len] at this
          simp at this
          omega
        have : (boV l)[k + i]? = some v := by
          rw [← hv]
          unfold boV
          rw [List.getElem?_map, List.getElem?_map, List.getElem?_take, if_pos hi, List.getElem?_drop]
        have := hc (k + i) v this
        rwa [show off + (k + i) = off + k + i by omega] at this
end Go.Proofs.YtcdlkdbnlomghaaDoor.Bi
