/-
  The contract of a reader that takes a number.
-/
import Derived.Test.YtcdlkdbnlomghaaDoorBiQ
namespace Go.Proofs.YtcdlkdbnlomghaaDoor.Bi
open Go.ChangeShapes Go.WideShapes Go.ChangeAt Go.RowKit
theorem numberAt_any (a : Option Addr) (len cap k at' : Nat) (l : List Bool) (w : World) (h : ByAt w a len cap (pack l len)) (hk : l.length = k) (hl : len = need k) (hN : k ≤ 131072) (ha : at' ≤ k) (hT : Tab w) : Calls Tryd.prog 76 #[.agg #[.slice a len cap, .int .i64 (k : Int)], .int .i64 at'] w fun e w' => NumPost l at' w e w' := by
  have hC := classAt_any a len cap k at' l (w.alloc (.cells #[.slice a len cap, .int .i64 (k : Int)] 26)) (h.below (below_alloc _ _)) hk hl hN ha (hT.below (below_alloc _ _))
  by_cases hE : ∃ c, clsIs l at' c
  · obtain ⟨c, hc⟩ := hE
    refine numberAt_some a len cap k at' l w h hk hl hN ha hT c (hC.mono ?_) hc
    rintro e w' ⟨hg, ⟨d, rfl, hd⟩ | ⟨_, hno⟩⟩
    · obtain rfl := clsIs_one hc hd
      exact ⟨rfl, hg⟩
    · exact absurd hc.2.1 (hno c hc.1)
  · refine numberAt_none a len cap k at' l w h hk hl hN ha hT (hC.mono ?_) (fun v m hn => ?_)
    · rintro e w' ⟨hg, ⟨d, _, hd⟩ | ⟨rfl, _⟩⟩
      · exact absurd ⟨d, hd⟩ hE
      · exact ⟨rfl, hg⟩
    · obtain ⟨c, hc, _⟩ := hn
      exact hE ⟨c, hc⟩
theorem rnum_nil (w : World) : Calls Tryd.prog 55 #[.pointer none] w fun e w' => e = .returned (.tuple #[.int .i64 0, .int .i64 2]) ∧ w' = w := by
  go_enter Tryd.func55, Tryd.ntmps55
  go_wp2
  go_ret2
  exact ⟨rfl, rfl⟩
set_option maxHeartbeats 1000000 in
set_option maxRecDepth 60000 in
theorem rnum_no (p at' : Nat) (l : List Bool) (w : World) (h : RdAt w p l at') (hT : Tab w) (hno : ∀ v k, ¬ NumIs l at' v k) : Calls Tryd.prog 55 #[.pointer (some ⟨p, 0, none⟩)] w fun e w' => MovePost p l at' (.tuple #[.int .i64 0, .int .i64 2]) w e w' := by
  have HLt := Hid.mk9 h.lt
  obtain ⟨a, len, cap, h⟩ := h
  have HH := Hid.mk9 h
  have HT := Hid.mk9 hT
  obtain ⟨b, hb⟩ : ∃ b, b = l.length := ⟨_, rfl⟩
  obtain ⟨c0, c1, c2⟩ := h.box.cells
  rw [← hb] at c1
  have x0 := cell_grown (a := ⟨p, 0, none⟩) h.box.lt c0
  have x1 := cell_grown (a := ⟨p, 1, none⟩) h.box.lt c1
  have x2 := cell_grown (a := ⟨p, 2, none⟩) h.box.lt c2
  have HN : Hid (∀ m os, Calls Tryd.prog 76 #[.agg #[.slice a len cap, .int .i64 (b : Int)], .int .i64 at'] (Go.Sort.grow (w.drewN m) os) fun e w' => e = .returned (.tuple #[.int .i64 0, .int .i64 0, .bool false]) ∧ Grown (Go.Sort.grow (w.drewN m) os) w') := fun m os => by
    refine (numberAt_any a len cap b at' l (Go.Sort.grow (w.drewN m) os) (h.row.below (below_grow w m os)) hb.symm (by rw [hb]; exact h.hl) (by have := h.ok; omega) (by have := h.ok; omega) (hT.below (below_grow w m os))).mono ?_
    rintro e w' ⟨hg, ⟨v, k, _, hv⟩ | ⟨rfl, _⟩⟩
    · exact absurd hv (hno v k)
    · exact ⟨rfl, hg⟩
  clear h hT hno hb c0 c1 c2
  go_enter Tryd.func55, Tryd.ntmps55
  go_wp2_with fail
  refine wp_region_QW mixed5 (by kernel_rfl) ?_
  repeat (refine QW_step (fun K hK => ?_); go_simp; first | (refine hK _ ?_; clear hK K) | (apply Exists.intro; refine ⟨fun _ => ?_, hK _ ?_⟩; (go_at_call 76; refine Calls.grown_of (HN.out _ _)); clear hK K))
  refine QW_nil ?_
  intro _ hw9
  obtain ⟨⟨nq, osq⟩, hw8⟩ := hw9
  subst hw8
  go_wp2_with fail
  go_ret2
  exact ⟨rfl, ⟨a, len, cap, HH.out.below (below_grow w nq osq)⟩, KpB.of_below (below_grow w nq osq) (Nat.le_of_lt HLt.out)⟩
set_option maxHeartbeats 1000000 in
set_option maxRecDepth 60000 in
theorem rnum_yes (p at' : Nat) (l : List Bool) (w : World) (h : RdAt w p l at') (hT : Tab w) (v : Int) (k : Nat) (hv : NumIs l at' v k) : Calls Tryd.prog 55 #[.pointer (some ⟨p, 0, none⟩)] w fun e w' => MovePost p l (at' + k) (.tuple #[.int .i64 v, .int .i64 0]) w e w' := by
  have hfit : at' + k ≤ l.length := by
    obtain ⟨c, _, h2, h3, _⟩ := hv
    rw [h3]
    exact h2
  have HLt := Hid.mk9 h.lt
  obtain ⟨a, len, cap, h⟩ := h
  have HH := Hid.mk9 h
  have HT := Hid.mk9 hT
  obtain ⟨b, hb⟩ : ∃ b, b = l.length := ⟨_, rfl⟩
  obtain ⟨c0, c1, c2⟩ := h.box.cells
  rw [← hb] at c1
  have x0 := cell_grown (a := ⟨p, 0, none⟩) h.box.lt c0
  have x1 := cell_grown (a := ⟨p, 1, none⟩) h.box.lt c1
  have x2 := cell_grown (a := ⟨p, 2, none⟩) h.box.lt c2
  have HN : Hid (∀ m os, Calls Tryd.prog 76 #[.agg #[.slice a len cap, .int .i64 (b : Int)], .int .i64 at'] (Go.Sort.grow (w.drewN m) os) fun e w' => e = .returned (.tuple #[.int .i64 v, .int .i64 (k : Int), .bool true]) ∧ Grown (Go.Sort.grow (w.drewN m) os) w') := fun m os => by
    refine (numberAt_any a len cap b at' l (Go.Sort.grow (w.drewN m) os) (h.row.below (below_grow w m os)) hb.symm (by rw [hb]; exact h.hl) (by have := h.ok; omega) (by have := h.ok; omega) (hT.below (below_grow w m os))).mono ?_
    rintro e w' ⟨hg, ⟨x, m, rfl, hx⟩ | ⟨_, hno⟩⟩
    · obtain ⟨rfl, rfl⟩ := num_one hv hx
      exact ⟨rfl, hg⟩
    · exact absurd hv (hno v k)
  obtain ⟨q, hq⟩ : ∃ q, q = at' + k := ⟨_, rfl⟩
  have e1 : (at' : Int) + (k : Int) = (q : Int) := by omega
  have e2 : (q : Int) ≤ 1000000 := by have := h.ok; omega
  have HQ : Hid (q = at' + k ∧ q ≤ l.length) := ⟨hq, by omega⟩
  clear h hT hv hb c0 c1 c2 hq hfit
  go_enter Tryd.func55, Tryd.ntmps55
  go_wp2_with fail
  refine wp_region_QW mixed5 (by kernel_rfl) ?_
  repeat (refine QW_step (fun K hK => ?_); go_simp; first | (refine hK _ ?_; clear hK K) | (apply Exists.intro; refine ⟨fun _ => ?_, hK _ ?_⟩; (go_at_call 76; refine Calls.grown_of (HN.out _ _)); clear hK K))
  refine QW_nil ?_
  intro _ hw9
  obtain ⟨⟨nq, osq⟩, hw8⟩ := hw9
  subst hw8
  have HR3 := Hid.mk9 (HH.out.below (below_grow w nq osq))
  have HB3 := Hid.mk9 (below_grow w nq osq)
  clear x0 x1 x2 HN HH
  generalize Go.Sort.grow (w.drewN nq) osq = w3 at *
  obtain ⟨c0, c1, c2⟩ := HR3.out.box.cells
  obtain ⟨f0, f1, f2⟩ := HR3.out.box.frz
  have HE : Hid (MovePost p l (at' + k) (.tuple #[.int .i64 v, .int .i64 0]) w (.returned (.tuple #[.int .i64 v, .int .i64 0])) (w3.setCell ⟨p, 2, none⟩ (.int .i64 (q : Int)))) := by
    rw [← HQ.out.1]
    exact ⟨rfl, ⟨a, len, cap, HR3.out.set q HQ.out.2⟩, (KpB.of_below HB3.out (Nat.le_of_lt HLt.out)).set 2 _⟩
  clear HR3 HB3
  go_wp2_with fail
  go_ret2
  exact HE.out
end Go.Proofs.YtcdlkdbnlomghaaDoor.Bi
