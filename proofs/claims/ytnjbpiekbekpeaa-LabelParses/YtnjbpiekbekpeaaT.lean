/-
  The contract of the answer's Text: a series' text.
-/
import Derived.Test.YtnjbpiekbekpeaaD
namespace Go.Proofs.Ytnjbpiekbekpeaa
open Go.ChangeShapes Go.WideShapes Go.ChangeAt Go.RowKit
theorem sg_append (a b : ByteArray) : sg (a ++ b) = sg a ++ sg b := by
  show (a ++ b).data.toList = _
  rw [ByteArray.data_append, Array.toList_append]
  rfl
theorem sg_sign (s : ByteArray) (k : Nat) (h : k < s.size) : sg (s.extract k (k + 1)) = [s[k]] := by
  have e : sg (s.extract k (k + 1)) = ((sg s).drop k).take 1 := by
    show (s.extract k (k + 1)).data.toList = _
    rw [ByteArray.data_extract]
    simp [sg, List.extract]
  rw [e, List.drop_eq_getElem_cons (by rw [sg_length]; exact h)]
  have := sg_get s k h
  rw [List.getElem?_eq_getElem (by rw [sg_length]; exact h)] at this
  simp [Option.some.inj this]
theorem size_of {s : ByteArray} {l : List UInt8} (h : sg s = l) {n : Nat} (hl : l.length ≤ n) : s.size ≤ n := by rw [← sg_length, h]; exact hl
set_option maxHeartbeats 8000000 in
set_option maxRecDepth 20000 in
theorem refText_any (v : Value) (nm : ByteArray) (ls : List Lab) (w : World) (h : SerAt w v nm ls) (hM : MayS nm ls) :
    Calls Try.prog 14 #[v] w fun e w' => e = .returned (.string ⟨(textL nm ls).toArray⟩) ∧ Below w.heap.size w w' := by
  obtain ⟨a, len, cap, rfl, hL, -, -⟩ := h
  have hl : ls.length = len := hL.1
  have hl4 : len ≤ 4 := by have := hM.2.1; omega
  have B0 : Below w.heap.size w (w.alloc (.cells #[.string nm, .slice a len cap] 24)) := below_alloc _ _
  have HL : Hid (LabsAt (w.alloc (.cells #[.string nm, .slice a len cap] 24)) a len cap ls) := hL.below B0
  have HM : Hid (MayS nm ls) := hM
  have HLEN : Hid (∀ k, k ≤ ls.length → (sg nm ++ bodyAt ls k).length ≤ 260) := fun k hk => by
    have h1 := bodyAt_length hM.2.2 k hk
    have h2 := (nameL_size hM.1).2
    have h3 := hM.2.1
    rw [List.length_append, sg_length]
    omega
  have HB0 : Hid (Below w.heap.size w (w.alloc (.cells #[.string nm, .slice a len cap] 24))) := B0
  clear hL hM B0
  go_enter Try.func14, Try.ntmps14
  go_wp2
  go_loop [3, 4] (fun t i => ∃ (k : Nat) (T : ByteArray), k ≤ len ∧ i = .int .i64 k ∧ t = .string T ∧ Hid (sg T = sg nm ++ bodyAt ls k)) (fun _ i => len - (intOf i).toNat)
  case atStart => exact ⟨0, nm, Nat.zero_le _, rfl, rfl, by show _ = _; simp [bodyAt]⟩
  case round =>
    obtain ⟨k, T, hk, rfl, rfl, hT⟩ := hrel
    have hTs : T.size ≤ 260 := size_of hT.out (HLEN.out k (by omega))
    by_cases hlt : k < len
    · obtain ⟨b, off, rfl, hcell⟩ := HL.out.some (by omega)
      obtain ⟨e0, e1⟩ := hcell k hlt
      have hi0 : (0 : Int) ≤ (k : Int) := by omega
      have hk1 : (k : Int) < (len : Int) := by omega
      clear hcell
      have hok := HM.out.2.2 k (by omega)
      have h1 := nameL_size hok.1
      have h2 := valL_size hok.2.1
      have HBODY : Hid (sg nm ++ bodyAt ls (k + 1) = (sg nm ++ bodyAt ls k) ++ [if k = 0 then 123 else 44] ++ sg (ls.getD k lab0).1 ++ [61, 34] ++ escL (sg (ls.getD k lab0).2) ++ [34]) := by
        show _ = _
        simp [bodyAt, labText]
      clear hok
      generalize ls.getD k lab0 = x at *
      obtain ⟨x1, x2⟩ := x
      simp only at h1 h2
      generalize sg nm ++ bodyAt ls k = acc at *
      have ecore : ∀ mk : UInt8, sg (((T ++ ⟨#[mk]⟩) ++ x1) ++ ⟨#[61, 34]⟩) = acc ++ [mk] ++ sg x1 ++ [61, 34] := fun mk => by
        rw [sg_append, sg_append, sg_append, hT.out]; rfl
      have inner : ∀ (mk : UInt8), mk = (if k = 0 then 123 else 44) → Hid (sg (((T ++ ⟨#[mk]⟩) ++ x1) ++ ⟨#[61, 34]⟩) = acc ++ [if k = 0 then 123 else 44] ++ sg x1 ++ [61, 34] ++ escL ((sg x2).take 0)) := fun mk hmk => by
        show _ = _
        rw [ecore mk, hmk]; simp [escL]
      have HACC : Hid ((acc ++ [if k = 0 then (123 : UInt8) else 44] ++ sg x1 ++ [61, 34]).length ≤ 290) := by
        show _ ≤ _
        have : acc.length ≤ 260 := by rw [← hT.out, sg_length]; exact hTs
        simp [sg_length]
        omega
      clear ecore
      have HBODY2 : Hid (sg nm ++ bodyAt ls (k + 1) = (acc ++ [if k = 0 then (123 : UInt8) else 44] ++ sg x1 ++ [61, 34]) ++ escL (sg x2) ++ [34]) := HBODY.out
      clear HBODY
      generalize hP : acc ++ [if k = 0 then (123 : UInt8) else 44] ++ sg x1 ++ [61, 34] = P at *
      by_cases hk0 : k = 0
      · have hin := inner 123 (by simp [hk0])
        have hkz : ((k : Int) == 0) = true := by simp [hk0]
        clear inner hk0 hP
        go_wp2
        go_loop [3, 6] (fun t kk => ∃ (j : Nat) (T2 : ByteArray), j ≤ x2.size ∧ kk = .int .i64 j ∧ t = .string T2 ∧ Hid (sg T2 = P ++ escL ((sg x2).take j))) (fun _ kk => x2.size - (intOf kk).toNat)
        case atStart => exact ⟨0, _, Nat.zero_le _, rfl, rfl, hin⟩
        case round =>
          obtain ⟨j, T2, hj, rfl, rfl, hT2⟩ := hrel
          have hT2s : T2.size ≤ 330 := size_of hT2.out (by
            have h5 := escL_length ((sg x2).take j)
            have h6 := HACC.out
            have h7 : ((sg x2).take j).length ≤ 16 := by simp [sg_length]; omega
            rw [List.length_append]
            omega)
          by_cases hjl : j < x2.size
          · have hsz := sg_sign x2 j hjl
            have hes : (x2.extract j (j + 1)).size = 1 := by rw [← sg_length, hsz]; rfl
            have hj0 : (0 : Int) ≤ (j : Int) := by omega
            have hj1 : (j : Int) + 1 ≤ (x2.size : Int) := by omega
            have h256 := x2[j].toNat_lt
            have HS0 : Hid (escL ((sg x2).take (j + 1)) = escL ((sg x2).take j) ++ (if markedB x2[j] then [92, x2[j]] else [x2[j]])) := by
              show _ = _
              rw [sg_take x2 j hjl, escL_snoc]
            by_cases c34 : x2[j].toNat = 34
            · have HESC : Hid (escL ((sg x2).take (j + 1)) = escL ((sg x2).take j) ++ [92, x2[j]]) := by
                show _ = _
                have hc : x2[j] = 34 := UInt8.toNat_inj.1 c34
                rw [HS0.out, if_pos (by simp [markedB, hc])]
              clear HS0
              go_wp2
              go_round
              case rel =>
                refine ⟨j + 1, _, by omega, by go_num, rfl, ?_⟩
                show _ = _
                rw [sg_append, sg_append, hsz, hT2.out, HESC.out]
                simp [sg]
              case measure => simp [intOf]; omega
            · by_cases c92 : x2[j].toNat = 92
              · have HESC : Hid (escL ((sg x2).take (j + 1)) = escL ((sg x2).take j) ++ [92, x2[j]]) := by
                  show _ = _
                  have hc : x2[j] = 92 := UInt8.toNat_inj.1 c92
                  rw [HS0.out, if_pos (by simp [markedB, hc])]
                clear HS0
                go_wp2
                go_round
                case rel =>
                  refine ⟨j + 1, _, by omega, by go_num, rfl, ?_⟩
                  show _ = _
                  rw [sg_append, sg_append, hsz, hT2.out, HESC.out]
                  simp [sg]
                case measure => simp [intOf]; omega
              · have HESC : Hid (escL ((sg x2).take (j + 1)) = escL ((sg x2).take j) ++ [x2[j]]) := by
                  show _ = _
                  have n1 : ¬ x2[j] = 34 := fun e => c34 (by rw [e]; rfl)
                  have n2 : ¬ x2[j] = 92 := fun e => c92 (by rw [e]; rfl)
                  rw [HS0.out, if_neg (by simp [markedB, n1, n2])]
                have d1 : ((x2[j].toNat : Int) == 34) = false := by simp; omega
                have d2 : ((x2[j].toNat : Int) == 92) = false := by simp; omega
                clear HS0
                go_wp2
                go_round
                case rel =>
                  refine ⟨j + 1, _, by omega, by go_num, rfl, ?_⟩
                  show _ = _
                  rw [sg_append, hsz, hT2.out, HESC.out]
                  simp
                case measure => simp [intOf]; omega
          · have HTK : (sg x2).take j = sg x2 := List.take_of_length_le (by rw [sg_length]; omega)
            go_wp2
            go_round
            case rel =>
              refine ⟨k + 1, _, by omega, by go_num, rfl, ?_⟩
              show _ = _
              rw [sg_append, hT2.out, HTK, HBODY2.out]
              rfl
            case measure => simp [intOf]; omega
      · have hin := inner 44 (by simp [hk0])
        have hkz : ((k : Int) == 0) = false := by simp [hk0]
        clear inner hk0 hP
        go_wp2
        go_loop [3, 6] (fun t kk => ∃ (j : Nat) (T2 : ByteArray), j ≤ x2.size ∧ kk = .int .i64 j ∧ t = .string T2 ∧ Hid (sg T2 = P ++ escL ((sg x2).take j))) (fun _ kk => x2.size - (intOf kk).toNat)
        case atStart => exact ⟨0, _, Nat.zero_le _, rfl, rfl, hin⟩
        case round =>
          obtain ⟨j, T2, hj, rfl, rfl, hT2⟩ := hrel
          have hT2s : T2.size ≤ 330 := size_of hT2.out (by
            have h5 := escL_length ((sg x2).take j)
            have h6 := HACC.out
            have h7 : ((sg x2).take j).length ≤ 16 := by simp [sg_length]; omega
            rw [List.length_append]
            omega)
          by_cases hjl : j < x2.size
          · have hsz := sg_sign x2 j hjl
            have hes : (x2.extract j (j + 1)).size = 1 := by rw [← sg_length, hsz]; rfl
            have hj0 : (0 : Int) ≤ (j : Int) := by omega
            have hj1 : (j : Int) + 1 ≤ (x2.size : Int) := by omega
            have h256 := x2[j].toNat_lt
            have HS0 : Hid (escL ((sg x2).take (j + 1)) = escL ((sg x2).take j) ++ (if markedB x2[j] then [92, x2[j]] else [x2[j]])) := by
              show _ = _
              rw [sg_take x2 j hjl, escL_snoc]
            by_cases c34 : x2[j].toNat = 34
            · have HESC : Hid (escL ((sg x2).take (j + 1)) = escL ((sg x2).take j) ++ [92, x2[j]]) := by
                show _ = _
                have hc : x2[j] = 34 := UInt8.toNat_inj.1 c34
                rw [HS0.out, if_pos (by simp [markedB, hc])]
              clear HS0
              go_wp2
              go_round
              case rel =>
                refine ⟨j + 1, _, by omega, by go_num, rfl, ?_⟩
                show _ = _
                rw [sg_append, sg_append, hsz, hT2.out, HESC.out]
                simp [sg]
              case measure => simp [intOf]; omega
            · by_cases c92 : x2[j].toNat = 92
              · have HESC : Hid (escL ((sg x2).take (j + 1)) = escL ((sg x2).take j) ++ [92, x2[j]]) := by
                  show _ = _
                  have hc : x2[j] = 92 := UInt8.toNat_inj.1 c92
                  rw [HS0.out, if_pos (by simp [markedB, hc])]
                clear HS0
                go_wp2
                go_round
                case rel =>
                  refine ⟨j + 1, _, by omega, by go_num, rfl, ?_⟩
                  show _ = _
                  rw [sg_append, sg_append, hsz, hT2.out, HESC.out]
                  simp [sg]
                case measure => simp [intOf]; omega
              · have HESC : Hid (escL ((sg x2).take (j + 1)) = escL ((sg x2).take j) ++ [x2[j]]) := by
                  show _ = _
                  have n1 : ¬ x2[j] = 34 := fun e => c34 (by rw [e]; rfl)
                  have n2 : ¬ x2[j] = 92 := fun e => c92 (by rw [e]; rfl)
                  rw [HS0.out, if_neg (by simp [markedB, n1, n2])]
                have d1 : ((x2[j].toNat : Int) == 34) = false := by simp; omega
                have d2 : ((x2[j].toNat : Int) == 92) = false := by simp; omega
                clear HS0
                go_wp2
                go_round
                case rel =>
                  refine ⟨j + 1, _, by omega, by go_num, rfl, ?_⟩
                  show _ = _
                  rw [sg_append, hsz, hT2.out, HESC.out]
                  simp
                case measure => simp [intOf]; omega
          · have HTK : (sg x2).take j = sg x2 := List.take_of_length_le (by rw [sg_length]; omega)
            go_wp2
            go_round
            case rel =>
              refine ⟨k + 1, _, by omega, by go_num, rfl, ?_⟩
              show _ = _
              rw [sg_append, hT2.out, HTK, HBODY2.out]
              rfl
            case measure => simp [intOf]; omega
    · obtain rfl : k = len := by omega
      by_cases hz : k = 0
      · have HTX : Hid (T = ⟨(textL nm ls).toArray⟩) := sg_ext (by
          rw [show sg (⟨(textL nm ls).toArray⟩ : ByteArray) = textL nm ls from by simp [sg], hT.out]
          simp [textL, hl, hz])
        have hk0 : ¬ (0 : Int) < (k : Int) := by omega
        clear hz
        go_wp2
        go_ret
        exact ⟨by rw [← HTX.out]; rfl, HB0.out⟩
      · have HTX : Hid (T ++ ⟨#[125]⟩ = ⟨(textL nm ls).toArray⟩) := sg_ext (by
          rw [show sg (⟨(textL nm ls).toArray⟩ : ByteArray) = textL nm ls from by simp [sg], sg_append, hT.out]
          simp [textL, hl, hz]
          rfl)
        have hk0 : (0 : Int) < (k : Int) := by omega
        clear hz
        go_wp2
        go_ret
        exact ⟨by rw [← HTX.out]; rfl, HB0.out⟩
end Go.Proofs.Ytnjbpiekbekpeaa
