/-
  The reader's take: one sign is read, as the plain machine reads it.
-/
import Derived.Test.YtnjbpiekbekpeaaG
namespace Go.Proofs.Ytnjbpiekbekpeaa
open Go.ChangeShapes Go.WideShapes Go.ChangeAt Go.RowKit
/-- mustBeMarked, of any rune -/
def markedR (r : Int) : Bool := r == 34 || r == 92
set_option maxHeartbeats 1000000 in
theorem markedR_any (r : Int) (w : World) : Calls Try.prog 40 #[.int .i32 r] w fun e w' => e = .returned (.bool (markedR r)) ∧ w' = w := by
  by_cases h1 : r = 34
  · subst h1
    go_enter Try.func40, Try.ntmps40
    go_wp2
    go_ret
    exact ⟨rfl, rfl⟩
  · by_cases h2 : r = 92
    · subst h2
      go_enter Try.func40, Try.ntmps40
      go_wp2
      go_ret
      exact ⟨rfl, rfl⟩
    · have e1 : (r == 34) = false := by simpa using h1
      have e2 : (r == 92) = false := by simpa using h2
      have e3 : markedR r = false := by simp [markedR, h1, h2]
      rw [e3]
      go_enter Try.func40, Try.ntmps40
      go_wp2
      go_ret
      exact ⟨rfl, rfl⟩
set_option maxHeartbeats 4000000 in
theorem take0_any {B R : Nat} {wd : List UInt8} {ln sn : ByteArray} {ls : List Lab} (w : World) (h : RdAt B R (0, wd, ln, sn, ls) w) (r : Int) (hr0 : 0 ≤ r) (hr1 : r ≤ 2147483647) :
    Calls Try.prog 33 #[.pointer (some ⟨R, 0, none⟩), .int .i32 r] w fun e w' => TPost B R (stepS (0, wd, ln, sn, ls) r) w e w' := by
  obtain ⟨lv, ⟨g0, _, _, _⟩, _, _⟩ := h.cells
  simp only at g0
  by_cases hs : r = 123
  · have HS : Hid (stepS (0, wd, ln, sn, ls) r = some (1, [], ln, baL wd, ls)) := by show _ = _; simp [stepS, hs]
    subst hs
    go_enter Try.func33, Try.ntmps33
    go_wp2_with fail
    refine (endWord_any _ h).mono ?_
    rintro e w1 ⟨rfl, hp1, _, _⟩
    obtain ⟨lv1, ⟨_, k3, k4, _⟩, ⟨_, f3, f4, _⟩, _⟩ := hp1.1.cells
    simp only at k3 k4
    have hp2 := hp1.trans (RdAt.set4 hp1.1 (baL wd))
    clear hp1 h g0
    go_wp2_with fail
    refine (move_any _ hp2.1 1).mono ?_
    rintro e w3 ⟨rfl, hp3⟩
    have HP : Hid (RPost B R (1, [], ln, baL wd, ls) w w3) := hp2.trans hp3
    clear hp3 hp2 k3 k4 f3 f4
    go_wp2
    go_ret
    exact move_post HP.out HS.out
  have hn : (r == 123) = false := by simpa using hs
  have HS : Hid (stepS (0, wd, ln, sn, ls) r = keepS r (0, wd, ln, sn, ls)) := by show _ = _; simp [stepS, hs]
  go_enter Try.func33, Try.ntmps33
  go_wp2_with fail
  refine (keep_any _ h r hr0 hr1).mono ?_
  rintro e w1 hT
  obtain ⟨q, rfl⟩ := hT.bool
  have HT : Hid (TPost B R (stepS (0, wd, ln, sn, ls) r) w (.returned (.bool q)) w1) := hT.eq HS.out
  clear hT h g0
  go_wp2
  go_ret
  exact HT.out
set_option maxHeartbeats 4000000 in
theorem take1_any {B R : Nat} {wd : List UInt8} {ln sn : ByteArray} {ls : List Lab} (w : World) (h : RdAt B R (1, wd, ln, sn, ls) w) (r : Int) (hr0 : 0 ≤ r) (hr1 : r ≤ 2147483647) :
    Calls Try.prog 33 #[.pointer (some ⟨R, 0, none⟩), .int .i32 r] w fun e w' => TPost B R (stepS (1, wd, ln, sn, ls) r) w e w' := by
  obtain ⟨lv, ⟨g0, _, _, _⟩, _, _⟩ := h.cells
  simp only at g0
  by_cases hs : r = 61
  · have HS : Hid (stepS (1, wd, ln, sn, ls) r = some (2, [], baL wd, sn, ls)) := by show _ = _; simp [stepS, hs]
    subst hs
    go_enter Try.func33, Try.ntmps33
    go_wp2_with fail
    refine (endWord_any _ h).mono ?_
    rintro e w1 ⟨rfl, hp1, _, _⟩
    obtain ⟨lv1, ⟨_, k3, k4, _⟩, ⟨_, f3, f4, _⟩, _⟩ := hp1.1.cells
    simp only at k3 k4
    have hp2 := hp1.trans (RdAt.set3 hp1.1 (baL wd))
    clear hp1 h g0
    go_wp2_with fail
    refine (move_any _ hp2.1 2).mono ?_
    rintro e w3 ⟨rfl, hp3⟩
    have HP : Hid (RPost B R (2, [], baL wd, sn, ls) w w3) := hp2.trans hp3
    clear hp3 hp2 k3 k4 f3 f4
    go_wp2
    go_ret
    exact move_post HP.out HS.out
  have hn : (r == 61) = false := by simpa using hs
  have HS : Hid (stepS (1, wd, ln, sn, ls) r = keepS r (1, wd, ln, sn, ls)) := by show _ = _; simp [stepS, hs]
  go_enter Try.func33, Try.ntmps33
  go_wp2_with fail
  refine (keep_any _ h r hr0 hr1).mono ?_
  rintro e w1 hT
  obtain ⟨q, rfl⟩ := hT.bool
  have HT : Hid (TPost B R (stepS (1, wd, ln, sn, ls) r) w (.returned (.bool q)) w1) := hT.eq HS.out
  clear hT h g0
  go_wp2
  go_ret
  exact HT.out
set_option maxHeartbeats 4000000 in
theorem take2_any {B R : Nat} {wd : List UInt8} {ln sn : ByteArray} {ls : List Lab} (w : World) (h : RdAt B R (2, wd, ln, sn, ls) w) (r : Int) :
    Calls Try.prog 33 #[.pointer (some ⟨R, 0, none⟩), .int .i32 r] w fun e w' => TPost B R (stepS (2, wd, ln, sn, ls) r) w e w' := by
  obtain ⟨lv, ⟨g0, _, _, _⟩, _, _⟩ := h.cells
  simp only at g0
  by_cases h34 : r = 34
  · have HS : Hid (stepS (2, wd, ln, sn, ls) r = some (3, wd, ln, sn, ls)) := by show _ = _; simp [stepS, h34]
    subst h34
    go_enter Try.func33, Try.ntmps33
    go_wp2_with fail
    refine (move_any _ h 3).mono ?_
    rintro e w1 ⟨rfl, hp⟩
    have HP : Hid (RPost B R (3, wd, ln, sn, ls) w w1) := hp
    clear hp h g0
    go_wp2
    go_ret
    exact move_post HP.out HS.out
  have n34 : (r == 34) = false := by simpa using h34
  have HS : Hid (stepS (2, wd, ln, sn, ls) r = none) := by show _ = _; simp [stepS, h34]
  clear h
  go_enter Try.func33, Try.ntmps33
  go_wp2
  go_ret
  exact none_post (Below.refl _ _) (Kp.refl _ _) HS.out
set_option maxHeartbeats 4000000 in
theorem take3_any {B R : Nat} {wd : List UInt8} {ln sn : ByteArray} {ls : List Lab} (w : World) (h : RdAt B R (3, wd, ln, sn, ls) w) (hls : ls.length ≤ 4) (r : Int) (hr0 : 0 ≤ r) (hr1 : r ≤ 2147483647) :
    Calls Try.prog 33 #[.pointer (some ⟨R, 0, none⟩), .int .i32 r] w fun e w' => TPost B R (stepS (3, wd, ln, sn, ls) r) w e w' := by
  obtain ⟨lv, ⟨g0, _, _, _⟩, _, _⟩ := h.cells
  simp only at g0
  go_enter Try.func33, Try.ntmps33
  go_wp2_with fail
  refine (takeValue_any _ h hls r hr0 hr1).mono ?_
  rintro e w1 hT
  obtain ⟨q, rfl⟩ := hT.bool
  have HT : Hid (TPost B R (stepS (3, wd, ln, sn, ls) r) w (.returned (.bool q)) w1) := hT
  clear hT h g0
  go_wp2
  go_ret
  exact HT.out
set_option maxHeartbeats 4000000 in
theorem take4_any {B R : Nat} {wd : List UInt8} {ln sn : ByteArray} {ls : List Lab} (w : World) (h : RdAt B R (4, wd, ln, sn, ls) w) (r : Int) (hr0 : 0 ≤ r) (hr1 : r ≤ 2147483647) :
    Calls Try.prog 33 #[.pointer (some ⟨R, 0, none⟩), .int .i32 r] w fun e w' => TPost B R (stepS (4, wd, ln, sn, ls) r) w e w' := by
  obtain ⟨lv, ⟨g0, _, _, _⟩, _, _⟩ := h.cells
  simp only at g0
  cases hm : markedR r with
  | false =>
    have HS : Hid (stepS (4, wd, ln, sn, ls) r = none) := by
      show _ = _
      simp [markedR] at hm
      simp [stepS, hm]
    clear h
    go_enter Try.func33, Try.ntmps33
    go_wp2_with fail
    refine (markedR_any r _).mono ?_
    rintro e w1 ⟨rfl, rfl⟩
    rw [hm]
    go_wp2
    go_ret
    exact none_post (Below.refl _ _) (Kp.refl _ _) HS.out
  | true =>
    have HS : Hid (stepS (4, wd, ln, sn, ls) r = (keepS r (4, wd, ln, sn, ls)).map fun s => (3, s.2)) := by
      show _ = _
      simp [markedR] at hm
      simp [stepS, hm]
    go_enter Try.func33, Try.ntmps33
    go_wp2_with fail
    refine (markedR_any r _).mono ?_
    rintro e w1 ⟨rfl, rfl⟩
    rw [hm]
    go_wp2_with fail
    refine (keep_any _ h r hr0 hr1).mono ?_
    rintro e w2 ⟨hb2, hk2, ⟨ho, rfl⟩ | ⟨st, ho, rfl, hrd⟩⟩
    · have HS2 : Hid (stepS (4, wd, ln, sn, ls) r = none) := by show _ = _; rw [HS.out, ho]; rfl
      have HB : Hid (Below B w1 w2) := hb2
      have HK : Hid (Kp R w1 w2) := hk2
      clear h g0 HS hb2 hk2 ho
      go_wp2
      go_ret
      exact none_post HB.out HK.out HS2.out
    · obtain ⟨p0, wd0, r0⟩ := st
      have HS2 : Hid (stepS (4, wd, ln, sn, ls) r = some (3, wd0, r0)) := by show _ = _; rw [HS.out, ho]; rfl
      have HB : Hid (Below B w1 w2) := hb2
      have HK : Hid (Kp R w1 w2) := hk2
      clear h g0 HS hb2 hk2 ho
      go_wp2_with fail
      refine (move_any _ hrd 3).mono ?_
      rintro e w3 ⟨rfl, hp3⟩
      have HP : Hid (RPost B R (3, wd0, r0) w1 w3) := ⟨hp3.1, HB.out.trans hp3.2.1, HK.out.trans hp3.2.2⟩
      clear hp3 hrd
      go_wp2
      go_ret
      exact move_post HP.out HS2.out
set_option maxHeartbeats 4000000 in
theorem take5_any {B R : Nat} {wd : List UInt8} {ln sn : ByteArray} {ls : List Lab} (w : World) (h : RdAt B R (5, wd, ln, sn, ls) w) (r : Int) :
    Calls Try.prog 33 #[.pointer (some ⟨R, 0, none⟩), .int .i32 r] w fun e w' => TPost B R (stepS (5, wd, ln, sn, ls) r) w e w' := by
  obtain ⟨lv, ⟨g0, _, _, _⟩, _, _⟩ := h.cells
  simp only at g0
  by_cases h44 : r = 44
  · have HS : Hid (stepS (5, wd, ln, sn, ls) r = some (1, wd, ln, sn, ls)) := by show _ = _; simp [stepS, h44]
    subst h44
    go_enter Try.func33, Try.ntmps33
    go_wp2_with fail
    refine (move_any _ h 1).mono ?_
    rintro e w1 ⟨rfl, hp⟩
    have HP : Hid (RPost B R (1, wd, ln, sn, ls) w w1) := hp
    clear hp h g0
    go_wp2
    go_ret
    exact move_post HP.out HS.out
  have n44 : (r == 44) = false := by simpa using h44
  by_cases h125 : r = 125
  · have HS : Hid (stepS (5, wd, ln, sn, ls) r = some (6, wd, ln, sn, ls)) := by show _ = _; simp [stepS, h125]
    subst h125
    go_enter Try.func33, Try.ntmps33
    go_wp2_with fail
    refine (move_any _ h 6).mono ?_
    rintro e w1 ⟨rfl, hp⟩
    have HP : Hid (RPost B R (6, wd, ln, sn, ls) w w1) := hp
    clear hp h g0
    go_wp2
    go_ret
    exact move_post HP.out HS.out
  have n125 : (r == 125) = false := by simpa using h125
  have HS : Hid (stepS (5, wd, ln, sn, ls) r = none) := by show _ = _; simp [stepS, h44, h125]
  clear h
  go_enter Try.func33, Try.ntmps33
  go_wp2
  go_ret
  exact none_post (Below.refl _ _) (Kp.refl _ _) HS.out
set_option maxHeartbeats 4000000 in
theorem take6_any {B R : Nat} {wd : List UInt8} {ln sn : ByteArray} {ls : List Lab} (w : World) (h : RdAt B R (6, wd, ln, sn, ls) w) (r : Int) :
    Calls Try.prog 33 #[.pointer (some ⟨R, 0, none⟩), .int .i32 r] w fun e w' => TPost B R (stepS (6, wd, ln, sn, ls) r) w e w' := by
  obtain ⟨lv, ⟨g0, _, _, _⟩, _, _⟩ := h.cells
  simp only at g0
  have HS : Hid (stepS (6, wd, ln, sn, ls) r = none) := by show _ = _; simp [stepS]
  clear h
  go_enter Try.func33, Try.ntmps33
  go_wp2
  go_ret
  exact none_post (Below.refl _ _) (Kp.refl _ _) HS.out
theorem take_any {B R : Nat} {p : Nat} {wd : List UInt8} {ln sn : ByteArray} {ls : List Lab} (w : World) (h : RdAt B R (p, wd, ln, sn, ls) w) (hp : p ≤ 6) (hls : ls.length ≤ 4) (r : Int) (hr0 : 0 ≤ r) (hr1 : r ≤ 2147483647) :
    Calls Try.prog 33 #[.pointer (some ⟨R, 0, none⟩), .int .i32 r] w fun e w' => TPost B R (stepS (p, wd, ln, sn, ls) r) w e w' := by
  match p, hp, h with
  | 0, _, h => exact take0_any w h r hr0 hr1
  | 1, _, h => exact take1_any w h r hr0 hr1
  | 2, _, h => exact take2_any w h r
  | 3, _, h => exact take3_any w h hls r hr0 hr1
  | 4, _, h => exact take4_any w h r hr0 hr1
  | 5, _, h => exact take5_any w h r
  | 6, _, h => exact take6_any w h r
/-- the machine keeps its bounds -/
theorem keepS_ok {r : Int} {st st' : St} (h : keepS r st = some st') : st'.1 = st.1 ∧ st'.2.2 = st.2.2 := by
  unfold keepS at h
  split at h
  · cases h
  · obtain rfl := Option.some.inj h
    exact ⟨rfl, rfl⟩
theorem stepS_ok {p : Nat} {wd : List UInt8} {ln sn : ByteArray} {ls : List Lab} {r : Int} {st : St} (hp : p ≤ 6) (hl : ls.length ≤ 4) (h : stepS (p, wd, ln, sn, ls) r = some st) : st.1 ≤ 6 ∧ st.2.2.2.2.length ≤ 4 := by
  unfold stepS at h
  simp only at h
  repeat' split at h
  all_goals first
    | (cases h; done)
    | (obtain rfl := Option.some.inj h; exact ⟨by simp, by simpa using hl⟩)
    | (obtain rfl := Option.some.inj h; exact ⟨by simp, by simp; omega⟩)
    | (obtain ⟨h1, h2⟩ := keepS_ok h; rw [h1, h2]; exact ⟨hp, hl⟩)
    | (obtain ⟨s, hs, rfl⟩ := Option.map_eq_some_iff.1 h; obtain ⟨h1, h2⟩ := keepS_ok hs; simp only [h2]; exact ⟨by simp, hl⟩)
end Go.Proofs.Ytnjbpiekbekpeaa
