/-
  The contract of choose.
-/
import Derived.Test.YtcncbjknfcjnmaaGreatPc
import Derived.Maps.AppendAt
namespace Go.Proofs.YtcncbjknfcjnmaaGreat.Tp
open Go.ChangeShapes Go.WideShapes Go.ChangeAt Go.RowKit
theorem ord_is {key : Nat} {l : List Ch} {ids : List Int} (hM : Dr.MayC l) (h : Dr.OrdC key l ids) : ids = ordF key l := by
  rcases h with ⟨_, s, hp, hs, rfl⟩ | ⟨h, _⟩
  · exact (Dr.sel_eq (Dr.costOf key) s l l.length (Dr.may_rise hM) (Dr.may_w hM) hp.symm hs (by rw [hp.length_eq]; exact Dr.heavy_len l)).symm
  · exact absurd hM h
/-- ids told, in a new block -/
def OrdP (I : List Int) (w : World) (e : Ending) (w' : World) : Prop := Below w.heap.size w w' ∧ ∃ p cap, e = .returned (.slice (some ⟨p, 0, none⟩) I.length cap) ∧ w.heap.size ≤ p ∧ IntsAt w' (some ⟨p, 0, none⟩) I ∧ I.length ≤ 64 ∧ I.length ≤ cap ∧ cap ≤ 64
theorem order_p {key : Nat} {l : List Ch} (hM : Dr.MayC l) (hk : key < 18446744073709551616) (a : Option Addr) (cap : Nat) (w : World) (h : ChsAt w a l.length cap l) : Calls Tryz.prog 147 #[.int .u64 (key : Int), .slice a l.length cap] w fun e w' => OrdP (ordF key l) w e w' :=
  (Dr.order_any key a l.length cap l w hk h).mono fun _ _ ⟨hb, p, c, ids, he, hp, hI, h64, hc, hc2, hO⟩ => by
    obtain rfl := ord_is hM hO
    exact ⟨hb, p, c, he, hp, hI, h64, hc, hc2⟩
/-- what lay there stays, and what lay between -/
structure Kept (n4 : Nat) (w1 w9 wr : World) : Prop where
  below : Below w1.heap.size w1 wr
  size : w9.heap.size ≤ wr.heap.size
  mid : ∀ k, n4 ≤ k → k < w9.heap.size → wr.heap[k]? = w9.heap[k]?
/-- a row's block is not one of those between -/
def Aside (v : Value) (n4 e : Nat) : Prop := ∀ k, v.ownBlock = some k → k < n4 ∨ e ≤ k
theorem Kept.cell {n4 : Nat} {w1 w9 wr : World} (h : Kept n4 w1 w9 wr) {b i : Nat} (h1 : n4 ≤ b) (h2 : b < w9.heap.size) : wr.cell? ⟨b, i, none⟩ = w9.cell? ⟨b, i, none⟩ := World.cell?_of_block (h.mid b h1 h2)
theorem Kept.step {n4 : Nat} {w1 w9 wr wB w7 : World} (h : Kept n4 w1 w9 wr) (hb : Below wr.heap.size wr wB) {v v' : Value} {T : TypeId} {n : Nat} {xs : List Value} (hown : wB.ownsRow w1.heap.size T 3 v n xs) (ha : Aside v n4 w9.heap.size) (hg : wB.grownBy w7 v.ownBlock) (hv : v'.ownBlock = v.ownBlock ∨ v'.ownBlock = some wB.heap.size) : Kept n4 w1 w9 w7 ∧ Aside v' n4 w9.heap.size := by
  have hs1 := hb.size
  have hs2 := hg.size
  have hs3 := h.size
  have hs4 := h.below.size
  refine ⟨⟨(below2 h.below hb).grown hg (by omega) (fun k hk => (hown.lt k hk).1), by omega, fun k h1 h2 => ?_⟩, fun k hk => ?_⟩
  · rw [hg.block k (by omega) (fun e => by rcases ha k e.symm with h3 | h3 <;> omega), hb.block k (by omega)]
    exact h.mid k h1 h2
  · rcases hv with e | e
    · exact ha k (by rw [← e]; exact hk)
    · rw [e] at hk
      injection hk with hk
      right
      omega
theorem infoSp : (Tryz.prog.info? 143).map (fun i => (i.zero, i.size, i.bytes)) = some (some (.agg #[.int .i64 0, .int .i64 0, .int .i64 0]), 3, 24) := by kernel_rfl
def HandPost (out : List Sp) (w : World) (e : Ending) (w' : World) : Prop := Below w.heap.size w w' ∧ ∃ a cap, e = .returned (.slice a out.length cap) ∧ HandAt w' a out
theorem choose_take (ls : List Nd) (g lev : Int) (n : Nat) {H : List Sp} {k : Nat} (h : k < H.length) : chooseP ls g lev n (H.take (k + 1)) = chooseP ls g lev n (H.take k) ++ chosen1 ls g lev n (H.getD k ld0) := by
  unfold chooseP
  rw [List.take_succ_eq_append_getElem h, List.flatMap_append, show H.getD k ld0 = H[k] by simp [h], List.flatMap_cons, List.flatMap_nil, List.append_nil]
theorem ids_take {I : List Int} {f : Int → Sp} {out : List Sp} {q : Nat} (h : q < I.length) : out ++ (I.take (q + 1)).map f = (out ++ (I.take q).map f) ++ [f (I.getD q 0)] := by
  rw [List.take_succ_eq_append_getElem h, List.map_append, show I.getD q 0 = I[q] by simp [h], List.append_assoc]
  rfl
set_option maxHeartbeats 4000000 in
set_option maxRecDepth 60000 in
theorem choose_any {a : Option Addr} {len cap : Nat} {ls : List Nd} (hM : MayN ls) (w : World) (h : NdsAt w a len cap ls) (kind g lev : Int) (n : Nat) (h12 : n ≤ 12) (aH : Option Addr) (capH : Nat) (H : List Sp) (hH : HandAt w aH H) (hm12 : H.length ≤ 12) (hz : lev = 2 → ∀ x ∈ H, x.1 ≠ 0) :
    Calls Tryz.prog 122 #[.slice a len cap, .agg #[.int .i64 kind, .int .i64 lev, .int .i64 (n : Int)], .int .i64 g, .slice aH H.length capH] w fun e w' => HandPost (chooseP ls g lev n H) w e w' := by
  have hb1 : Below w.heap.size w (w.alloc (.cells #[.int .i64 kind, .int .i64 lev, .int .i64 (n : Int)] 121)) := below_alloc _ _
  have hs1 : w.heap.size < (w.alloc (.cells #[.int .i64 kind, .int .i64 lev, .int .i64 (n : Int)] 121)).heap.size := by simp
  have HX : Hid ((w.alloc (.cells #[.int .i64 kind, .int .i64 lev, .int .i64 (n : Int)] 121)).cell? ⟨w.heap.size, 1, none⟩ = some (.int .i64 lev) ∧ (w.alloc (.cells #[.int .i64 kind, .int .i64 lev, .int .i64 (n : Int)] 121)).cell? ⟨w.heap.size, 2, none⟩ = some (.int .i64 (n : Int))) := ⟨by simp, by simp⟩
  have HL : Hid (NdsAt (w.alloc (.cells #[.int .i64 kind, .int .i64 lev, .int .i64 (n : Int)] 121)) a len cap ls) := h.below hb1
  have HH : Hid (HandAt (w.alloc (.cells #[.int .i64 kind, .int .i64 lev, .int .i64 (n : Int)] 121)) aH H) := hH.below hb1
  have HM : Hid (MayN ls) := hM
  have HZ : Hid (lev = 2 → ∀ x ∈ H, x.1 ≠ 0) := hz
  obtain ⟨i0, hi, hz0, hz1, hz2⟩ := info_parts infoSp
  have hmI : (H.length : Int) ≤ 12 := by omega
  have hnI : (n : Int) ≤ 12 := by omega
  have HTK : Hid (chooseP ls g lev n (H.take H.length) = chooseP ls g lev n H) := by unfold Hid; rw [List.take_length]
  have HST : Hid (∀ k, k < H.length → chooseP ls g lev n (H.take (k + 1)) = chooseP ls g lev n (H.take k) ++ chosen1 ls g lev n (H.getD k ld0)) := fun k hk => choose_take ls g lev n hk
  clear h hH hM hz h12 hm12
  generalize hm : H.length = m at *
  have HLN : Hid (H.length = m) := hm
  clear hm
  go_enter Tryz.func122, Tryz.ntmps122
  go_wp2_with fail
  generalize w.alloc (.cells #[.int .i64 kind, .int .i64 lev, .int .i64 (n : Int)] 121) = w1 at *
  have H0 : Hid (w1.ownsRow w1.heap.size 143 3 (.slice none 0 0) ([] : List Sp).length (cellsLd [])) := ⟨rfl, .inl ⟨rfl, rfl⟩⟩
  go_loopw [9, 17] (fun o i wr => ∃ (k : Nat) (out : List Sp), k ≤ m ∧ i = .int .i64 k ∧ Hid (out = chooseP ls g lev n (H.take k)) ∧ Hid (out.length ≤ k * 64) ∧ Hid (wr.ownsRow w1.heap.size 143 3 o out.length (cellsLd out)) ∧ Below w1.heap.size w1 wr) (fun _ i _ => m - (intOf i).toNat)
  case atStart => exact ⟨0, [], Nat.zero_le _, rfl, rfl, Nat.le_refl _, H0, Below.refl _ _⟩
  case round =>
    obtain ⟨k, out, hk, rfl, hT, hok, hown, hbel⟩ := hrel
    obtain ⟨ao, co, rfl, -⟩ := own_slice hown.out
    by_cases hlt : k < m
    · have hk1 : (k : Int) < (m : Int) := by omega
      have hk0 : (0 : Int) ≤ (k : Int) := by omega
      obtain ⟨b, rfl, hbs, e0, e1, e2⟩ := (HH.out.below hbel).get (k := k) (by have := HLN.out; omega)
      have HN : Hid (chooseP ls g lev n (H.take (k + 1)) = out ++ chosen1 ls g lev n (H.getD k ld0)) := by have := HST.out k (by have := HLN.out; omega); rw [← hT.out] at this; exact this
      have HZK : Hid (lev = 2 → (H.getD k ld0).1 ≠ 0) := fun e => HZ.out e _ (by
        have hkl : k < H.length := by have := HLN.out; omega
        rw [show H.getD k ld0 = H[k] by simp [hkl]]
        exact List.getElem_mem hkl)
      generalize H.getD k ld0 = x at *
      obtain ⟨x1, x2, x3⟩ := x
      simp only at e0 e1 e2
      have hbA := below2 hbel (below_alloc wr (.cells #[.int .i64 x1, .int .i64 x2, .int .i64 x3] 143))
      have HOA : Hid _ := own_alloc hown.out (.cells #[.int .i64 x1, .int .i64 x2, .int .i64 x3] 143)
      have HAS : Hid (∀ j, (Value.slice ao out.length co).ownBlock = some j → j < wr.heap.size) := fun j hj => (hown.out.lt j hj).2
      have hszA : wr.heap.size < (wr.alloc (.cells #[.int .i64 x1, .int .i64 x2, .int .i64 x3] 143)).heap.size := by simp
      have hwx := Nat.lt_of_lt_of_le hs1 hbel.size
      obtain ⟨y1, y2⟩ := HX.out
      have HC : Hid (((wr.alloc (.cells #[.int .i64 x1, .int .i64 x2, .int .i64 x3] 143)).cell? ⟨wr.heap.size, 0, none⟩ = some (.int .i64 x1) ∧ (wr.alloc (.cells #[.int .i64 x1, .int .i64 x2, .int .i64 x3] 143)).cell? ⟨wr.heap.size, 1, none⟩ = some (.int .i64 x2) ∧ (wr.alloc (.cells #[.int .i64 x1, .int .i64 x2, .int .i64 x3] 143)).cell? ⟨wr.heap.size, 2, none⟩ = some (.int .i64 x3)) ∧ (wr.alloc (.cells #[.int .i64 x1, .int .i64 x2, .int .i64 x3] 143)).cell? ⟨w.heap.size, 1, none⟩ = some (.int .i64 lev)) := ⟨⟨by simp, by simp, by simp⟩, (hbA.cell (p := ⟨w.heap.size, 1, none⟩) hs1).trans y1⟩
      have HLA : Hid (NdsAt (wr.alloc (.cells #[.int .i64 x1, .int .i64 x2, .int .i64 x3] 143)) a len cap ls) := HL.out.below hbA
      clear hown hT y1 y2 hbel
      go_wp2_with fail
      generalize hwA : wr.alloc (.cells #[.int .i64 x1, .int .i64 x2, .int .i64 x3] 143) = wA at *
      clear hwA
      generalize hn4 : wr.heap.size = n4 at *
      clear hn4
      have HK : Hid (∀ w', Below wA.heap.size wA w' → ((w'.cell? ⟨n4, 0, none⟩ = some (.int .i64 x1) ∧ w'.cell? ⟨n4, 1, none⟩ = some (.int .i64 x2) ∧ w'.cell? ⟨n4, 2, none⟩ = some (.int .i64 x3)) ∧ w'.cell? ⟨w.heap.size, 1, none⟩ = some (.int .i64 lev) ∧ Below wA.heap.size wA w')) := fun w' hb =>
        ⟨⟨(hb.cell (p := ⟨n4, 0, none⟩) hszA).trans HC.out.1.1, (hb.cell (p := ⟨n4, 1, none⟩) hszA).trans HC.out.1.2.1, (hb.cell (p := ⟨n4, 2, none⟩) hszA).trans HC.out.1.2.2⟩, (hb.cell (p := ⟨w.heap.size, 1, none⟩) (Nat.lt_trans hwx hszA)).trans HC.out.2, hb⟩
      have H33 : Hid (∀ w' : World, Calls Tryz.prog 148 #[.int .i64 g, .int .i64 lev, .agg #[.int .i64 x1, .int .i64 x2, .int .i64 x3]] w' fun e w'' => e = .returned (.int .u64 ((keyOf g lev x1 x2 : Nat) : Int)) ∧ Below w'.heap.size w' w'') := key_any g lev x1 x2 x3
      have H34 : Hid (∀ w', Below wA.heap.size wA w' → Calls Tryz.prog 149 #[.slice a len cap, .int .i64 lev, .agg #[.int .i64 x1, .int .i64 x2, .int .i64 x3]] w' fun e w'' => ChPost (childrenOf ls lev x1 x2) w' e w'') := fun w' hb => children_any HM.out x3 HZK.out w' (HLA.out.below hb)
      have H32 : Hid (∀ (w' : World) (a' : Option Addr) (c' : Nat), ChsAt w' a' (childrenOf ls lev x1 x2).length c' (childrenOf ls lev x1 x2) → Calls Tryz.prog 147 #[.int .u64 ((keyOf g lev x1 x2 : Nat) : Int), .slice a' (childrenOf ls lev x1 x2).length c'] w' fun e w'' => OrdP (ordF (keyOf g lev x1 x2) (childrenOf ls lev x1 x2)) w' e w'') := fun w' a' c' hc => order_p (children_may HM.out _ _ _) (keyOf_lt _ _ _ _) a' c' w' hc
      have HNX : Hid (chooseP ls g lev n (H.take (k + 1)) = out ++ ((ordF (keyOf g lev x1 x2) (childrenOf ls lev x1 x2)).take n).map (childOf (x1, x2, x3) lev)) := HN.out
      clear HN
      have HSW : Hid (∀ w' : World, ∀ a' c', ChsAt w' a' (childrenOf ls lev x1 x2).length c' (childrenOf ls lev x1 x2) → ∀ w'', Below w'.heap.size w' w'' → ChsAt w'' a' (childrenOf ls lev x1 x2).length c' (childrenOf ls lev x1 x2)) := fun w' a' c' h w'' hb => h.below hb
      generalize childrenOf ls lev x1 x2 = C at *
      generalize keyOf g lev x1 x2 = q at *
      generalize ordF q C = I at *
      go_region_held3 (fun w' => (w'.cell? ⟨n4, 0, none⟩ = some (.int .i64 x1) ∧ w'.cell? ⟨n4, 1, none⟩ = some (.int .i64 x2) ∧ w'.cell? ⟨n4, 2, none⟩ = some (.int .i64 x3)) ∧ w'.cell? ⟨w.heap.size, 1, none⟩ = some (.int .i64 lev) ∧ Below wA.heap.size wA w')
        (first | exact HK.out _ (below_drew _) | (go_split_ands; exact HK.out _ (by assumption)) | (go_split_ands; exact HK.out _ (below2 (by assumption) (by assumption))))
        ((first
          | (go_at_call 148; refine (H33.out _).mono ?_; rintro en w6 ⟨rfl, hb6⟩)
          | (go_at_call 149; refine (H34.out _ (by go_split_ands; assumption)).mono ?_; rintro en w7 ⟨hb7, a7, c7, rfl, hc7⟩; have HC7 : Hid (ChsAt w7 a7 C.length c7 C) := hc7; clear hc7)
          | (go_at_call 147; refine (H32.out _ _ _ (by first | exact HC7.out | exact HSW.out _ _ _ HC7.out _ (by assumption))).mono ?_; rintro en w8 ⟨hb8, p, c8, rfl, hp, hI, h64, hcc, hc64⟩)))
      all_goals
        have hbR : Below wA.heap.size wA w8 := by first | exact below2 (below_drew wA) (below2 hb6 (below2 hb7 hb8)) | exact below2 (below_drew wA) (below2 hb7 (below2 hb6 hb8))
        have hpn : n4 < p := by
          have hq1 : wA.heap.size ≤ p := by first | exact Nat.le_trans (below2 (below_drew wA) (below2 hb6 hb7)).size hp | exact Nat.le_trans (below2 (below_drew wA) (below2 hb7 hb6)).size hp
          omega
        have HIN : Hid (IntsAt w8 (some ⟨p, 0, none⟩) I) := hI
        clear hb6 hb7 hb8 hI hp HC7 H32 H33 H34 HSW
        obtain ⟨⟨z0, z1, z2⟩, z3, -⟩ := HK.out w8 hbR
        have HSP : Hid (w8.cell? ⟨n4, 0, none⟩ = some (.int .i64 x1) ∧ w8.cell? ⟨n4, 1, none⟩ = some (.int .i64 x2) ∧ w8.cell? ⟨n4, 2, none⟩ = some (.int .i64 x3)) := ⟨z0, z1, z2⟩
        have hb8 : Below w1.heap.size w1 w8 := below2 hbA hbR
        have z4 : w8.cell? ⟨w.heap.size, 2, none⟩ = some (.int .i64 (n : Int)) := (hb8.cell (p := ⟨w.heap.size, 2, none⟩) hs1).trans HX.out.2
        have HO8 : Hid (w8.ownsRow w1.heap.size 143 3 (.slice ao out.length co) out.length (cellsLd out)) := own_below HOA.out hbR
        have HKP : Hid (Kept n4 w1 w8 w8) := ⟨hb8, Nat.le_refl _, fun _ _ _ => rfl⟩
        have HA8 : Hid (Aside (.slice ao out.length co) n4 w8.heap.size) := fun j hj => .inl (HAS.out j hj)
        have hn48 : n4 < w8.heap.size := Nat.lt_of_lt_of_le hszA hbR.size
        have hxs8 : w.heap.size < w8.heap.size := Nat.lt_of_lt_of_le hs1 hb8.size
        obtain ⟨j, hj⟩ : ∃ j : Nat, j = min n I.length := ⟨_, rfl⟩
        have hmin : min (n : Int) (I.length : Int) = (j : Int) := by omega
        have hjc : (j : Int) ≤ (c8 : Int) := by omega
        have hj0 : (0 : Int) ≤ (j : Int) := by omega
        have hj12 : (j : Int) ≤ 12 := by omega
        have HJI : Hid (j ≤ I.length) := by unfold Hid; omega
        have HJT : Hid (I.take n = I.take j) := by
          unfold Hid
          by_cases hc : n ≤ I.length
          · rw [show j = n by omega]
          · rw [List.take_of_length_le (by omega), List.take_of_length_le (by omega)]
        have HO768 : Hid (out.length ≤ 768) := by unfold Hid; have := hok.out; omega
        clear HK HOA HAS hbR hbA HC HLA z0 z1 z2 hj hszA h64
        generalize hIL : I.length = il at *
        have HIL : Hid (I.length = il) := hIL
        clear hIL
        go_wp2_with fail
        go_loopw [9, 40] (fun o i wq => ∃ (t : Nat) (o2 : List Sp), t ≤ j ∧ i = .int .i64 t ∧ Hid (o2 = out ++ (I.take t).map (childOf (x1, x2, x3) lev)) ∧ Hid (o2.length = out.length + t) ∧ Hid (wq.ownsRow w1.heap.size 143 3 o o2.length (cellsLd o2)) ∧ Hid (Aside o n4 w8.heap.size) ∧ Hid (Kept n4 w1 w8 wq)) (fun _ i _ => j - (intOf i).toNat)
        case atStart => exact ⟨0, out, Nat.zero_le _, rfl, (by unfold Hid; simp), rfl, HO8, HA8, HKP⟩
        case round =>
          obtain ⟨t, o2, ht, rfl, hT2, hL2, hown2, has2, hkp2⟩ := hrel
          obtain ⟨ao2, co2, rfl, -⟩ := own_slice hown2.out
          by_cases hlt2 : t < j
          · have ht1 : (t : Int) < (j : Int) := by omega
            have ht0 : (0 : Int) ≤ (t : Int) := by omega
            have hti : t < I.length := by have := HJI.out; have := HIL.out; omega
            have HCELL : Hid (wr.cell? ⟨p, t, none⟩ = some (.int .i64 (I.getD t 0))) := by
              rcases HIN.out with h0 | ⟨p', hpe, hp8, hci⟩
              · rw [h0] at hti; simp at hti
              · injection hpe with hpe
                injection hpe with hpe
                subst hpe
                exact (hkp2.out.cell (Nat.le_of_lt hpn) hp8).trans (hci t hti)
            have u0 := (hkp2.out.cell (i := 0) (Nat.le_refl _) hn48).trans HSP.out.1
            have u1 := (hkp2.out.cell (i := 1) (Nat.le_refl _) hn48).trans HSP.out.2.1
            have u2 := (hkp2.out.cell (i := 2) (Nat.le_refl _) hn48).trans HSP.out.2.2
            have u3 := (hkp2.out.below.cell (p := ⟨w.heap.size, 1, none⟩) hs1).trans HX.out.1
            have u4 := HCELL.out
            have HT3 : Hid (out ++ (I.take (t + 1)).map (childOf (x1, x2, x3) lev) = o2 ++ [childOf (x1, x2, x3) lev (I.getD t 0)]) := by
              unfold Hid
              rw [hT2.out]
              exact ids_take hti
            have HCH : Hid (∀ W : World, Calls Tryz.prog 150 #[.agg #[.int .i64 x1, .int .i64 x2, .int .i64 x3], .int .i64 lev, .int .i64 (I.getD t 0)] W fun e w' => e = .returned (.agg #[.int .i64 (childOf (x1, x2, x3) lev (I.getD t 0)).1, .int .i64 (childOf (x1, x2, x3) lev (I.getD t 0)).2.1, .int .i64 (childOf (x1, x2, x3) lev (I.getD t 0)).2.2]) ∧ Below W.heap.size W w') := child_any x1 x2 x3 lev _
            clear HCELL hT2 hti
            generalize childOf (x1, x2, x3) lev (I.getD t 0) = y at *
            generalize I.getD t 0 = id at *
            obtain ⟨y1, y2, y3⟩ := y
            simp only at HCH
            have hn4q : n4 < wr.heap.size := Nat.lt_of_lt_of_le hn48 hkp2.out.size
            go_wp2_with fail
            refine (HCH.out _).mono ?_
            rintro e w6 ⟨rfl, hb6⟩
            have hownB := own_alloc (own_below hown2.out hb6) (.cells #[.int .i64 y1, .int .i64 y2, .int .i64 y3] 143)
            have hnews := cells_lit w6 (ldCells (y1, y2, y3)) 143
            have hw4 : w6.alloc (.cells (ldCells (y1, y2, y3)).toArray 143) = w6.alloc (.cells #[.int .i64 y1, .int .i64 y2, .int .i64 y3] 143) := rfl
            rw [hw4] at hnews
            have hbq : Below wr.heap.size wr (w6.alloc (.cells #[.int .i64 y1, .int .i64 y2, .int .i64 y3] 143)) := below2 hb6 (below_alloc _ _)
            have hszq : w1.heap.size ≤ (w6.alloc (.cells #[.int .i64 y1, .int .i64 y2, .int .i64 y3] 143)).heap.size := Nat.le_trans hkp2.out.below.size hbq.size
            have hl780 : (o2.length : Int) ≤ 780 := by have := hL2.out; have := HO768.out; omega
            clear hw4 HCH u0 u1 u2 u3 u4
            go_wp2_with (at_builtin; refine wpList_append_own_at _ rfl _ _ 141 rfl w1.heap.size 143 i0 (.agg #[.int .i64 0, .int .i64 0, .int .i64 0]) 3 24 Tryz.underlying141 hi hz0 hz1 hz2 rfl (by decide) _ _ _ rfl hownB ⟨w6.heap.size, 0, none⟩ 1 1 (ldCells (y1, y2, y3)) rfl rfl hnews (by intro u hu; simp [ldCells] at hu; rcases hu with rfl | rfl | rfl <;> rfl) (by unfold maxLen; omega) (by omega) hszq ?_)
            intro v7 w7 hown7' hg7 _ hv7
            have e6 : (w6.alloc (.cells #[.int .i64 y1, .int .i64 y2, .int .i64 y3] 143)).heap.size = w6.heap.size + 1 := by simp
            obtain ⟨hkp7, has7⟩ := hkp2.out.step hbq hownB has2.out hg7 (by rw [e6]; exact hv7)
            clear e6
            have HO7 : Hid (w7.ownsRow w1.heap.size 143 3 v7 (o2 ++ [(y1, y2, y3)]).length (cellsLd (o2 ++ [(y1, y2, y3)]))) := by
              rw [cellsLd_snoc, List.length_append]
              exact hown7'
            have HKP7 : Hid (Kept n4 w1 w8 w7) := hkp7
            have HAS7 : Hid (Aside v7 n4 w8.heap.size) := has7
            have HL7 : Hid ((o2 ++ [(y1, y2, y3)]).length = out.length + (t + 1)) := by unfold Hid; rw [List.length_append, hL2.out]; rfl
            clear hown7' hg7 hownB hnews hv7 hkp7 has7 hbq hszq hb6
            go_wp2_with fail
            exact ⟨⟨t + 1, o2 ++ [(y1, y2, y3)], by omega, by go_num, HT3.out.symm, HL7, HO7, HAS7, HKP7⟩, by simp [intOf]; omega⟩
          · obtain rfl : t = j := by omega
            have HE : Hid (o2 = chooseP ls g lev n (H.take (k + 1))) := by unfold Hid; rw [HNX.out, HJT.out, hT2.out]
            have HL3 : Hid (o2.length ≤ (k + 1) * 64) := by unfold Hid; have := hL2.out; have := hok.out; omega
            have hbq := hkp2.out.below
            clear hT2 hL2 has2 hkp2
            go_wp2_with fail
            exact ⟨⟨k + 1, o2, by omega, by go_num, HE, HL3, hown2, hbq⟩, by simp [intOf]; omega⟩
    · obtain rfl : k = m := by omega
      have HE : Hid (out = chooseP ls g lev n H) := by unfold Hid; rw [hT.out, ← HTK.out]
      have HI : Hid (HandAt wr ao out) := hand_own hown.out rfl
      have hbw : Below w.heap.size w wr := below2 hb1 hbel
      clear hown hT
      go_wp2_with fail
      go_ret
      rw [← HE.out]
      exact ⟨hbw, ao, co, rfl, HI.out⟩
end Go.Proofs.YtcncbjknfcjnmaaGreat.Tp
