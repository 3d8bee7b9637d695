/-
  The answer Low and Of.
-/
import Derived.Test.YtcdlkdbnlomghaaDoorBiT
namespace Go.Proofs.YtcdlkdbnlomghaaDoor.Bi
open Go.ChangeShapes Go.WideShapes Go.ChangeAt Go.RowKit
theorem makeBo (n : Nat) (hn : (n : Int) ≤ 1000000) (w : World) : (Instr.makeSlice 80 (.int .i64 (n : Int)) (.int .i64 (n : Int))).run Tryd.prog w = .ok (.slice (some ⟨w.heap.size, 0, none⟩) n n) (w.alloc (.cells (boV (List.replicate n false)).toArray 4)) := by
  obtain ⟨i0, hi, hz0, hz1, hz2⟩ := info_parts infoBo
  have e := run_make (P := Tryd.prog) w 80 4 i0 (.bool false) Tryd.underlying80 hi hz0 .i64 .i64 n n (by omega) (by omega) (by rw [hz2]; omega) (by omega)
  rw [e, hz1]
  have e2 : madeCells (Value.bool false).cells ((n : Int).toNat * 1) = (boV (List.replicate n false)).toArray := by
    apply Array.toList_inj.1
    rw [show (Value.bool false).cells = #[Value.bool false] from rfl, toList_madeCells_one]
    simp [boV]
  rw [e2]
  rfl
theorem Ro.bools {w : World} {g : Nat} {l : List Bool} (h : Ro w g 4 (boV l)) (hn : l.length ≤ maxLen) : BoAt w (some ⟨g, 0, none⟩) l.length l.length l :=
  ⟨boV_len l, Nat.le_refl _, hn, .inr ⟨g, 0, rfl, fun i v hv => by rw [Nat.zero_add]; exact h.cell hv⟩⟩
theorem low_one (u : Nat) : low u 1 = [u % 2 == 1] := rfl
theorem low_back (U n m : Nat) (h : m + 1 ≤ n) : boV ((List.replicate (m + 1) false ++ low U (n - (m + 1))).set m (U / 2 ^ (n - (m + 1)) % 2 == 1)) = boV (List.replicate m false ++ low U (n - m)) := by
  congr 1
  rw [show n - m = 1 + (n - (m + 1)) by omega, low_add, low_one, List.replicate_succ', List.append_assoc, List.set_append_right _ _ (by simp)]
  simp
theorem boV_set (l : List Bool) (i : Nat) (b : Bool) : (boV l).set i (.bool b) = boV (l.set i b) := by simp [boV]
set_option maxHeartbeats 1000000 in
set_option maxRecDepth 60000 in
theorem low_any (U n : Nat) (w : World) (hn : n ≤ 64) (hU : inU U) : Calls Tryd.prog 62 #[.int .u64 U, .int .i64 n] w fun e w' => BoPost (low U n) w e w' := by
  have h9 : (n : Int) ≤ 64 := by omega
  have hmk := makeBo n (by omega) w
  have HB := Hid.mk9 (below_alloc w (.cells (boV (List.replicate n false)).toArray 4))
  have HR := Hid.mk9 (Ro.new w 4 (boV (List.replicate n false)))
  have HN := Hid.mk9 hn
  have HUI := Hid.mk9 hU
  clear hU
  generalize w.alloc (.cells (boV (List.replicate n false)).toArray 4) = w1 at *
  obtain ⟨G, hG⟩ : ∃ G, G = w.heap.size := ⟨_, rfl⟩
  have HG : Hid (w.heap.size ≤ G) := by rw [hG]; exact Nat.le_refl _
  rw [← hG] at HR hmk
  clear hG hn
  go_enter Tryd.func62, Tryd.ntmps62
  go_wp2_with fail
  go_loopw [0, 6] (fun u i wr => ∃ m : Nat, i = .int .i64 ((m : Int) - 1) ∧ Hid (m ≤ n) ∧ Hid (u = .int .u64 ((U / 2 ^ (n - m) : Nat) : Int)) ∧ Hid (Ro wr G 4 (boV (List.replicate m false ++ low U (n - m))) ∧ Below w.heap.size w wr)) (fun u i _ => (intOf i + 1).toNat)
  case atStart => exact ⟨n, rfl, Nat.le_refl _, by simp [Hid], by simpa [low] using HR.out, HB.out⟩
  case round =>
    obtain ⟨m, rfl, hm, hu, hr⟩ := hrel
    obtain rfl := hu.out
    clear hu
    rcases m with _ | m
    · have HE : Hid (BoPost (low U n) w (.returned (.slice (some ⟨G, 0, none⟩) n n)) wr) := by
        have h1 := hr.out.1
        rw [Nat.sub_zero, List.replicate_zero, List.nil_append] at h1
        have h2 := h1.bools (by rw [low_len]; have := HN.out; unfold maxLen; omega)
        refine ⟨hr.out.2, some ⟨G, 0, none⟩, n, by rw [low_len], ?_⟩
        rw [low_len] at h2 ⊢
        exact h2
      have hz : (((0 : Nat) : Int)) - 1 = -1 := rfl
      rw [hz]
      clear hr hz hm
      go_wp2_with fail
      go_ret
      exact HE.out
    · have hz : (((m + 1 : Nat) : Int)) - 1 = (m : Int) := by omega
      rw [hz]
      have HM := Hid.mk9 hm.out
      have e1 : (m : Int) < (n : Int) := by have := hm.out; omega
      have HRn := Hid.mk9 (hr.out.1.set m (.bool (U / 2 ^ (n - (m + 1)) % 2 == 1)))
      rw [boV_set, low_back U n m hm.out] at HRn
      have HBn := Hid.mk9 (hr.out.2.setCell (p := ⟨G, m, none⟩) HG.out (.bool (U / 2 ^ (n - (m + 1)) % 2 == 1)))
      have h4 := hr.out.1.cell (i := m) (v := .bool false) (by rw [boV_append, List.getElem?_append_left (by simp [boV])]; simp [boV])
      have h5 := hr.out.1.fz m
      have HU : Hid (U / 2 ^ (n - (m + 1)) / 2 = U / 2 ^ (n - m)) := by
        unfold Hid
        have hnm : n - m = n - (m + 1) + 1 := by have := hm.out; omega
        rw [Nat.div_div_eq_div_mul, hnm, Nat.pow_succ]
      obtain ⟨x, hx⟩ : ∃ x, x = U / 2 ^ (n - (m + 1)) := ⟨_, rfl⟩
      rw [← hx] at HRn HBn HU ⊢
      have e2 : ((x : Int) % 2 == 1) = (x % 2 == 1) := by
        have : (x : Int) % 2 = ((x % 2 : Nat) : Int) := by omega
        rw [this]
        have h : x % 2 = 0 ∨ x % 2 = 1 := by omega
        rcases h with h | h <;> rw [h] <;> rfl
      obtain ⟨bb, hbb⟩ : ∃ bb, bb = (x % 2 == 1) := ⟨_, rfl⟩
      rw [← hbb] at e2 HRn HBn
      obtain ⟨y, hy⟩ : ∃ y, y = x / 2 := ⟨_, rfl⟩
      have e3 : (x : Int) / 2 = (y : Int) := by omega
      have hxU : x ≤ U := by rw [hx]; exact Nat.div_le_self _ _
      have ew : IntKind.u64.wrap (y : Int) = (y : Int) := by have := HUI.out; unfold inU at this; rw [IntKind.wrap_u64]; omega
      rw [← hy] at HU
      clear hr hx hbb hy hm hxU
      go_wp2_with fail
      exact ⟨⟨m, rfl, by have := HM.out; unfold Hid; omega, by unfold Hid; rw [HU.out], HRn.out, HBn.out⟩, by simp [intOf]⟩
theorem lay_sum (l m : List Bool) (h : l.length % 8 + m.length ≤ 8) : byteOf (l ++ m) (l.length / 8) = byteOf l (l.length / 8) + valL m * 2 ^ (8 - l.length % 8 - m.length) := by
  obtain ⟨r, hr⟩ : ∃ r, 8 = l.length % 8 + (m.length + r) := ⟨8 - l.length % 8 - m.length, by omega⟩
  have hq : 8 * (l.length / 8) + l.length % 8 = l.length := by omega
  have h1 : byteOf (l ++ m) (l.length / 8) = val (bt l) (8 * (l.length / 8)) (l.length % 8) * 2 ^ (m.length + r) + valL m * 2 ^ r := by
    rw [byte_split (l ++ m) (l.length / 8) (l.length % 8) (m.length + r) hr.symm, hq, val_add]
    have e1 : val (bt (l ++ m)) (8 * (l.length / 8)) (l.length % 8) = val (bt l) (8 * (l.length / 8)) (l.length % 8) := val_congr fun i hi => bt_left _ (by omega)
    have e2 : val (bt (l ++ m)) l.length m.length = valL m := val_congr fun i _ => by rw [Nat.zero_add]; exact bt_right l m i
    have e3 : val (bt (l ++ m)) (l.length + m.length) r = 0 := val_zero fun i _ => bt_end (by simp)
    rw [e1, e2, e3, Nat.add_zero]
  have h2 : byteOf l (l.length / 8) = val (bt l) (8 * (l.length / 8)) (l.length % 8) * 2 ^ (m.length + r) := by
    rw [byte_split l (l.length / 8) (l.length % 8) (m.length + r) hr.symm, hq]
    have e3 : val (bt l) l.length (m.length + r) = 0 := val_zero fun i _ => bt_end (by omega)
    rw [e3, Nat.add_zero]
  rw [h1, h2, show 8 - l.length % 8 - m.length = r by omega]
theorem pack_one (l : List Bool) (b : Bool) (M : Nat) : pack (l ++ [b]) M = (pack l M).set (l.length / 8) (byteOf l (l.length / 8) + b.toNat * 2 ^ (7 - l.length % 8)) := by
  have hb : l.length % 8 + [b].length ≤ 8 := by simp; omega
  refine (pack_ext (by simp [pack_len]) fun j hj => ?_).symm
  have hv : valL [b] = b.toNat := by cases b <;> rfl
  by_cases e : l.length / 8 = j
  · subst e
    simp only [List.getD_eq_getElem?_getD]
    rw [List.getElem?_set, if_pos rfl, if_pos (by rw [pack_len]; exact hj)]
    rw [lay_sum l [b] hb, hv, show 8 - l.length % 8 - [b].length = 7 - l.length % 8 by simp; omega]
    rfl
  · simp only [List.getD_eq_getElem?_getD]
    rw [List.getElem?_set, if_neg e, ← List.getD_eq_getElem?_getD, pack_get l hj]
    exact (lay_other l [b] hb (fun x => e x.symm)).symm
theorem pack_one_false (l : List Bool) (M : Nat) : pack (l ++ [false]) M = pack l M := by
  refine pack_ext (by simp [pack_len]) fun j hj => ?_
  rw [pack_one]
  by_cases e : l.length / 8 = j
  · subst e
    simp only [List.getD_eq_getElem?_getD]
    rw [List.getElem?_set, if_pos rfl, if_pos (by rw [pack_len]; exact hj)]
    simp
  · simp only [List.getD_eq_getElem?_getD]
    rw [List.getElem?_set, if_neg e, ← List.getD_eq_getElem?_getD, pack_get l hj]
set_option maxHeartbeats 1000000 in
set_option maxRecDepth 60000 in
theorem of_any (a : Option Addr) (len cap : Nat) (l : List Bool) (w : World) (h : BoAt w a len cap l) (hl : len ≤ 20000) : Calls Tryd.prog 36 #[.slice a len cap] w fun e w' => LongPost l len w e w' := by
  have HL : Hid (l.length = len ∧ len ≤ 20000) := ⟨h.len, hl⟩
  have h9 : (len : Int) ≤ 20000 := by omega
  obtain ⟨M, hM⟩ : ∃ M, M = need len := ⟨_, rfl⟩
  have HR := Hid.mk9 h
  have HY := Hid.mk9 (B2.new w 26 (.slice none 0 0) (.int .i64 0))
  have HB := Hid.mk9 (below_alloc w (.cells #[.slice none 0 0, .int .i64 0] 26))
  have eM : ((len : Int) + 7) / 8 = (M : Int) := by rw [hM]; unfold need; omega
  have M9 : (M : Int) ≤ 100000 := by rw [hM]; unfold need; omega
  have HM := Hid.mk9 hM
  clear h hl hM
  go_enter Tryd.func36, Tryd.ntmps36
  go_upto_region 1 with fail
  generalize w.alloc (.cells #[.slice none 0 0, .int .i64 0] 26) = w1 at *
  obtain ⟨Y, hY⟩ : ∃ Y, Y = w.heap.size := ⟨_, rfl⟩
  have HYw : Hid (w.heap.size ≤ Y) := by rw [hY]; exact Nat.le_refl _
  rw [← hY] at HY ⊢
  clear hY
  have hmk := makeB M (by omega) w1
  have HB2 := Hid.mk9 (below2 HB.out (below_alloc w1 (.cells (bytV (List.replicate M 0)).toArray 5)))
  have HY2 := Hid.mk9 (HY.out.below (below_alloc w1 (.cells (bytV (List.replicate M 0)).toArray 5)))
  have HG2 := Hid.mk9 (Ro.new w1 5 (bytV (List.replicate M 0)))
  have HYG := Hid.mk9 HY.out.lt
  generalize w1.alloc (.cells (bytV (List.replicate M 0)).toArray 5) = w2 at *
  generalize w1.heap.size = G at *
  clear HY HB
  go_wp2_with fail
  go_loopw [4] (fun i wr => ∃ n : Nat, i = .int .i64 (n : Int) ∧ Hid (n ≤ len) ∧ Hid (Ro wr G 5 (bytV (pack (l.take n) M)) ∧ KeepR G w2 wr)) (fun i _ => len - (intOf i).toNat)
  case atStart => exact ⟨0, rfl, Nat.zero_le _, by rw [List.take_zero, pack_nil]; exact HG2.out, KeepR.refl _ _⟩
  case round =>
    obtain ⟨n, rfl, hn, hr⟩ := hrel
    have hBw : Hid (Below w.heap.size w wr) := hr.out.2.below _ _ HB2.out (by have := HYw.out; have := HYG.out; omega)
    by_cases hlt : n < len
    · have e4 : (n : Int) < (len : Int) := by omega
      obtain ⟨b, off, rfl, h1⟩ := (HR.out.below hBw.out).at hlt
      have HLT := Hid.mk9 hlt
      have hts := take_snoc l (i := n) (by have := HL.out; omega)
      have hlen : (l.take n).length = n := by have := HL.out; simp; omega
      cases hbb : l.getD n false with
      | false =>
        rw [hbb] at h1 hts
        have HN := Hid.mk9 hr.out.1
        rw [← pack_one_false, hts] at HN
        have HK := Hid.mk9 hr.out.2
        clear hbb hts hlen hr hBw hn hlt
        go_wp2_with fail
        exact ⟨⟨n + 1, by go_num, HLT.out, HN.out, HK.out⟩, by simp [intOf]; have := HLT.out; omega⟩
      | true =>
        rw [hbb] at h1 hts
        obtain ⟨j, hj⟩ : ∃ j, j = n / 8 := ⟨_, rfl⟩
        obtain ⟨m, hm⟩ : ∃ m, m = n % 8 := ⟨_, rfl⟩
        obtain ⟨q, hq⟩ : ∃ q, q = 7 - n % 8 := ⟨_, rfl⟩
        have e1 : (n : Int) / 8 = (j : Int) := by omega
        have e2 : (n : Int) % 8 = (m : Int) := by omega
        have e3 : 7 - (m : Int) = (q : Int) := by omega
        have e5 : (j : Int) < (M : Int) := by have := HM.out; unfold need at this; omega
        have e6 : (q : Int) ≤ 7 := by omega
        obtain ⟨B, hB⟩ : ∃ B, B = byteOf (l.take n) j := ⟨_, rfl⟩
        have h2 := hr.out.1.byte (i := j) (by rw [pack_len]; omega)
        rw [pack_get _ (by omega), ← hB] at h2
        have h3 := hr.out.1.fz j
        have hp := pack_one (l.take n) true M
        rw [hts, hlen, ← hj, ← hq, ← hB] at hp
        have hq2 : 2 ^ q < 256 := Nat.lt_of_le_of_lt (Nat.pow_le_pow_right (by decide) (by omega : q ≤ 7)) (by decide)
        have hsum : B + 2 ^ q < 256 := by
          have h7 := byteOf_lt (l.take (n + 1)) j
          have h8 := lay_sum (l.take n) [true] (by rw [hlen]; simp; omega)
          rw [hts, hlen, ← hj, ← hB] at h8
          have h9 : valL [true] * 2 ^ (8 - n % 8 - [true].length) = 2 ^ q := by rw [show 8 - n % 8 - [true].length = q by simp; omega]; exact Nat.one_mul _
          omega
        obtain ⟨P, hP⟩ : ∃ P, P = 2 ^ q := ⟨_, rfl⟩
        rw [← hP] at hq2 hsum hp
        have e7 : IntKind.u8.wrap ((2 : Int) ^ q) = (P : Int) := by
          rw [IntKind.wrap_u8', hP, Int.natCast_pow]
          exact Int.emod_eq_of_lt (Int.pow_nonneg (by decide)) (by have h8 : ((2 ^ q : Nat) : Int) < 256 := (by omega); rw [Int.natCast_pow] at h8; exact h8)
        obtain ⟨T, hT⟩ : ∃ T, T = B + P := ⟨_, rfl⟩
        have e8 : (B : Int) + (P : Int) = (T : Int) := by omega
        have e9 : IntKind.u8.wrap (T : Int) = (T : Int) := by rw [IntKind.wrap_u8']; omega
        have HN := Hid.mk9 (hr.out.1.set j (.int .u8 (T : Int)))
        rw [bytV_set, show (pack (l.take n) M).set j T = pack (l.take (n + 1)) M by rw [hp, hT]; simp] at HN
        have HK := Hid.mk9 (hr.out.2.set j (.int .u8 (T : Int)))
        have HT2 := Hid.mk9 hT
        clear hbb hts hlen hr hBw hn hlt hj hm hq hB hp hq2 hsum hP hT
        go_wp2_with fail
        exact ⟨⟨n + 1, by go_num, HLT.out, HN.out, HK.out⟩, by simp [intOf]; have := HLT.out; omega⟩
    · obtain rfl : n = len := by have := hn.out; omega
      have HN := Hid.mk9 hr.out.1
      rw [show l.take n = l from List.take_of_length_le (by rw [HL.out.1]; exact Nat.le_refl _)] at HN
      have HYr := Hid.mk9 (HY2.out.kept (hr.out.2.else_ Y (by have := HYG.out; omega)))
      obtain ⟨f0, f1⟩ := HYr.out.frz
      obtain ⟨q0, q1⟩ := HYr.out.cells
      have HZ := Hid.mk9 (HYr.out.set (.slice (some ⟨G, 0, none⟩) M M) (.int .i64 n))
      have HZb := Hid.mk9 (set2_below hBw.out (b := Y) HYw.out (.slice (some ⟨G, 0, none⟩) M M) (.int .i64 n))
      have HZg := Hid.mk9 (HN.out.set2 (Y := Y) (.slice (some ⟨G, 0, none⟩) M M) (.int .i64 n) (by have := HYG.out; omega))
      have HGw : Hid (w.heap.size ≤ G) := by have := HYw.out; have := HYG.out; unfold Hid; omega
      clear hr hBw hn hlt HN HYr
      go_wp2_with fail
      refine bodyPost_ret (ret_2 rfl _ _ Y (.slice (some ⟨G, 0, none⟩) M M) (.int .i64 n) rfl HZ.out) rfl ?_
      exact ⟨HZb.out, G, HGw.out, by rw [← HM.out], by rw [← HM.out]; exact HZg.out⟩
end Go.Proofs.YtcdlkdbnlomghaaDoor.Bi
