/-
  The reader's take: one sign is read, as the plain machine reads it.
  The contract of sortLabels: the labels, by rising names.
-/
import Derived.Test.YtihohcmocejijaaGreatPr03
import Derived.Shelf.SlSortCmp.SmallK
namespace Go.Proofs.YtihohcmocejijaaGreat.Lb
open Go.ChangeShapes Go.WideShapes Go.ChangeAt Go.RowKit
def markedR (r : Int) : Bool := r == 34 || r == 92
set_option maxHeartbeats 1000000 in
theorem markedR_any (r : Int) (w : World) : Calls Tryz.prog 122 #[.int .i32 r] w fun e w' => e = .returned (.bool (markedR r)) ∧ w' = w := by
  by_cases h1 : r = 34
  · subst h1
    go_enter Tryz.func122, Tryz.ntmps122
    go_wp2
    go_ret
    exact ⟨rfl, rfl⟩
  · by_cases h2 : r = 92
    · subst h2
      go_enter Tryz.func122, Tryz.ntmps122
      go_wp2
      go_ret
      exact ⟨rfl, rfl⟩
    · have e1 : (r == 34) = false := by simpa using h1
      have e2 : (r == 92) = false := by simpa using h2
      have e3 : markedR r = false := by simp [markedR, h1, h2]
      rw [e3]
      go_enter Tryz.func122, Tryz.ntmps122
      go_wp2
      go_ret
      exact ⟨rfl, rfl⟩
set_option maxHeartbeats 4000000 in
theorem take0_any {B R : Nat} {wd : List UInt8} {ln sn : ByteArray} {ls : List Lab} (w : World) (h : RdAt B R (0, wd, ln, sn, ls) w) (r : Int) (hr0 : 0 ≤ r) (hr1 : r ≤ 2147483647) :
    Calls Tryz.prog 99 #[.pointer (some ⟨R, 0, none⟩), .int .i32 r] w fun e w' => TPost B R (stepS (0, wd, ln, sn, ls) r) w e w' := by
  obtain ⟨lv, ⟨g0, _, _, _⟩, _, _⟩ := h.cells
  simp only at g0
  by_cases hs : r = 123
  · have HS : Hid (stepS (0, wd, ln, sn, ls) r = some (1, [], ln, baL wd, ls)) := by show _ = _; simp [stepS, hs]
    subst hs
    go_enter Tryz.func99, Tryz.ntmps99
    go_wp2_with fail
    refine (endWord_any _ h).mono ?_
    rintro e w1 ⟨rfl, hp1, _, _⟩
    obtain ⟨lv1, ⟨_, k3, k4, _⟩, ⟨_, f3, f4, _⟩, _⟩ := hp1.1.cells
    simp only at k3 k4
    have hp2 := hp1.trans (RdAt.set4 hp1.1 (baL wd))
    clear hp1 h g0
    go_wp2_with fail
    refine (move_any _ hp2.1 1).mono ?_
    rintro e w3 ⟨rfl, hp3⟩
    have HP : Hid (RPost B R (1, [], ln, baL wd, ls) w w3) := hp2.trans hp3
    clear hp3 hp2 k3 k4 f3 f4
    go_wp2
    go_ret
    exact move_post HP.out HS.out
  have hn : (r == 123) = false := by simpa using hs
  have HS : Hid (stepS (0, wd, ln, sn, ls) r = keepS r (0, wd, ln, sn, ls)) := by show _ = _; simp [stepS, hs]
  go_enter Tryz.func99, Tryz.ntmps99
  go_wp2_with fail
  refine (keep_any _ h r hr0 hr1).mono ?_
  rintro e w1 hT
  obtain ⟨q, rfl⟩ := hT.bool
  have HT : Hid (TPost B R (stepS (0, wd, ln, sn, ls) r) w (.returned (.bool q)) w1) := hT.eq HS.out
  clear hT h g0
  go_wp2
  go_ret
  exact HT.out
set_option maxHeartbeats 4000000 in
theorem take1_any {B R : Nat} {wd : List UInt8} {ln sn : ByteArray} {ls : List Lab} (w : World) (h : RdAt B R (1, wd, ln, sn, ls) w) (r : Int) (hr0 : 0 ≤ r) (hr1 : r ≤ 2147483647) :
    Calls Tryz.prog 99 #[.pointer (some ⟨R, 0, none⟩), .int .i32 r] w fun e w' => TPost B R (stepS (1, wd, ln, sn, ls) r) w e w' := by
  obtain ⟨lv, ⟨g0, _, _, _⟩, _, _⟩ := h.cells
  simp only at g0
  by_cases hs : r = 61
  · have HS : Hid (stepS (1, wd, ln, sn, ls) r = some (2, [], baL wd, sn, ls)) := by show _ = _; simp [stepS, hs]
    subst hs
    go_enter Tryz.func99, Tryz.ntmps99
    go_wp2_with fail
    refine (endWord_any _ h).mono ?_
    rintro e w1 ⟨rfl, hp1, _, _⟩
    obtain ⟨lv1, ⟨_, k3, k4, _⟩, ⟨_, f3, f4, _⟩, _⟩ := hp1.1.cells
    simp only at k3 k4
    have hp2 := hp1.trans (RdAt.set3 hp1.1 (baL wd))
    clear hp1 h g0
    go_wp2_with fail
    refine (move_any _ hp2.1 2).mono ?_
    rintro e w3 ⟨rfl, hp3⟩
    have HP : Hid (RPost B R (2, [], baL wd, sn, ls) w w3) := hp2.trans hp3
    clear hp3 hp2 k3 k4 f3 f4
    go_wp2
    go_ret
    exact move_post HP.out HS.out
  have hn : (r == 61) = false := by simpa using hs
  have HS : Hid (stepS (1, wd, ln, sn, ls) r = keepS r (1, wd, ln, sn, ls)) := by show _ = _; simp [stepS, hs]
  go_enter Tryz.func99, Tryz.ntmps99
  go_wp2_with fail
  refine (keep_any _ h r hr0 hr1).mono ?_
  rintro e w1 hT
  obtain ⟨q, rfl⟩ := hT.bool
  have HT : Hid (TPost B R (stepS (1, wd, ln, sn, ls) r) w (.returned (.bool q)) w1) := hT.eq HS.out
  clear hT h g0
  go_wp2
  go_ret
  exact HT.out
set_option maxHeartbeats 4000000 in
theorem take2_any {B R : Nat} {wd : List UInt8} {ln sn : ByteArray} {ls : List Lab} (w : World) (h : RdAt B R (2, wd, ln, sn, ls) w) (r : Int) :
    Calls Tryz.prog 99 #[.pointer (some ⟨R, 0, none⟩), .int .i32 r] w fun e w' => TPost B R (stepS (2, wd, ln, sn, ls) r) w e w' := by
  obtain ⟨lv, ⟨g0, _, _, _⟩, _, _⟩ := h.cells
  simp only at g0
  by_cases h34 : r = 34
  · have HS : Hid (stepS (2, wd, ln, sn, ls) r = some (3, wd, ln, sn, ls)) := by show _ = _; simp [stepS, h34]
    subst h34
    go_enter Tryz.func99, Tryz.ntmps99
    go_wp2_with fail
    refine (move_any _ h 3).mono ?_
    rintro e w1 ⟨rfl, hp⟩
    have HP : Hid (RPost B R (3, wd, ln, sn, ls) w w1) := hp
    clear hp h g0
    go_wp2
    go_ret
    exact move_post HP.out HS.out
  have n34 : (r == 34) = false := by simpa using h34
  have HS : Hid (stepS (2, wd, ln, sn, ls) r = none) := by show _ = _; simp [stepS, h34]
  clear h
  go_enter Tryz.func99, Tryz.ntmps99
  go_wp2
  go_ret
  exact none_post (Below.refl _ _) (Kp.refl _ _) HS.out
set_option maxHeartbeats 4000000 in
theorem take3_any {B R : Nat} {wd : List UInt8} {ln sn : ByteArray} {ls : List Lab} (w : World) (h : RdAt B R (3, wd, ln, sn, ls) w) (hls : ls.length ≤ 4) (r : Int) (hr0 : 0 ≤ r) (hr1 : r ≤ 2147483647) :
    Calls Tryz.prog 99 #[.pointer (some ⟨R, 0, none⟩), .int .i32 r] w fun e w' => TPost B R (stepS (3, wd, ln, sn, ls) r) w e w' := by
  obtain ⟨lv, ⟨g0, _, _, _⟩, _, _⟩ := h.cells
  simp only at g0
  go_enter Tryz.func99, Tryz.ntmps99
  go_wp2_with fail
  refine (takeValue_any _ h hls r hr0 hr1).mono ?_
  rintro e w1 hT
  obtain ⟨q, rfl⟩ := hT.bool
  have HT : Hid (TPost B R (stepS (3, wd, ln, sn, ls) r) w (.returned (.bool q)) w1) := hT
  clear hT h g0
  go_wp2
  go_ret
  exact HT.out
set_option maxHeartbeats 4000000 in
theorem take4_any {B R : Nat} {wd : List UInt8} {ln sn : ByteArray} {ls : List Lab} (w : World) (h : RdAt B R (4, wd, ln, sn, ls) w) (r : Int) (hr0 : 0 ≤ r) (hr1 : r ≤ 2147483647) :
    Calls Tryz.prog 99 #[.pointer (some ⟨R, 0, none⟩), .int .i32 r] w fun e w' => TPost B R (stepS (4, wd, ln, sn, ls) r) w e w' := by
  obtain ⟨lv, ⟨g0, _, _, _⟩, _, _⟩ := h.cells
  simp only at g0
  cases hm : markedR r with
  | false =>
    have HS : Hid (stepS (4, wd, ln, sn, ls) r = none) := by
      show _ = _
      simp [markedR] at hm
      simp [stepS, hm]
    clear h
    go_enter Tryz.func99, Tryz.ntmps99
    go_wp2_with fail
    refine (markedR_any r _).mono ?_
    rintro e w1 ⟨rfl, rfl⟩
    rw [hm]
    go_wp2
    go_ret
    exact none_post (Below.refl _ _) (Kp.refl _ _) HS.out
  | true =>
    have HS : Hid (stepS (4, wd, ln, sn, ls) r = (keepS r (4, wd, ln, sn, ls)).map fun s => (3, s.2)) := by
      show _ = _
      simp [markedR] at hm
      simp [stepS, hm]
    go_enter Tryz.func99, Tryz.ntmps99
    go_wp2_with fail
    refine (markedR_any r _).mono ?_
    rintro e w1 ⟨rfl, rfl⟩
    rw [hm]
    go_wp2_with fail
    refine (keep_any _ h r hr0 hr1).mono ?_
    rintro e w2 ⟨hb2, hk2, ⟨ho, rfl⟩ | ⟨st, ho, rfl, hrd⟩⟩
    · have HS2 : Hid (stepS (4, wd, ln, sn, ls) r = none) := by show _ = _; rw [HS.out, ho]; rfl
      have HB : Hid (Below B w1 w2) := hb2
      have HK : Hid (Kp R w1 w2) := hk2
      clear h g0 HS hb2 hk2 ho
      go_wp2
      go_ret
      exact none_post HB.out HK.out HS2.out
    · obtain ⟨p0, wd0, r0⟩ := st
      have HS2 : Hid (stepS (4, wd, ln, sn, ls) r = some (3, wd0, r0)) := by show _ = _; rw [HS.out, ho]; rfl
      have HB : Hid (Below B w1 w2) := hb2
      have HK : Hid (Kp R w1 w2) := hk2
      clear h g0 HS hb2 hk2 ho
      go_wp2_with fail
      refine (move_any _ hrd 3).mono ?_
      rintro e w3 ⟨rfl, hp3⟩
      have HP : Hid (RPost B R (3, wd0, r0) w1 w3) := ⟨hp3.1, HB.out.trans hp3.2.1, HK.out.trans hp3.2.2⟩
      clear hp3 hrd
      go_wp2
      go_ret
      exact move_post HP.out HS2.out
set_option maxHeartbeats 4000000 in
theorem take5_any {B R : Nat} {wd : List UInt8} {ln sn : ByteArray} {ls : List Lab} (w : World) (h : RdAt B R (5, wd, ln, sn, ls) w) (r : Int) :
    Calls Tryz.prog 99 #[.pointer (some ⟨R, 0, none⟩), .int .i32 r] w fun e w' => TPost B R (stepS (5, wd, ln, sn, ls) r) w e w' := by
  obtain ⟨lv, ⟨g0, _, _, _⟩, _, _⟩ := h.cells
  simp only at g0
  by_cases h44 : r = 44
  · have HS : Hid (stepS (5, wd, ln, sn, ls) r = some (1, wd, ln, sn, ls)) := by show _ = _; simp [stepS, h44]
    subst h44
    go_enter Tryz.func99, Tryz.ntmps99
    go_wp2_with fail
    refine (move_any _ h 1).mono ?_
    rintro e w1 ⟨rfl, hp⟩
    have HP : Hid (RPost B R (1, wd, ln, sn, ls) w w1) := hp
    clear hp h g0
    go_wp2
    go_ret
    exact move_post HP.out HS.out
  have n44 : (r == 44) = false := by simpa using h44
  by_cases h125 : r = 125
  · have HS : Hid (stepS (5, wd, ln, sn, ls) r = some (6, wd, ln, sn, ls)) := by show _ = _; simp [stepS, h125]
    subst h125
    go_enter Tryz.func99, Tryz.ntmps99
    go_wp2_with fail
    refine (move_any _ h 6).mono ?_
    rintro e w1 ⟨rfl, hp⟩
    have HP : Hid (RPost B R (6, wd, ln, sn, ls) w w1) := hp
    clear hp h g0
    go_wp2
    go_ret
    exact move_post HP.out HS.out
  have n125 : (r == 125) = false := by simpa using h125
  have HS : Hid (stepS (5, wd, ln, sn, ls) r = none) := by show _ = _; simp [stepS, h44, h125]
  clear h
  go_enter Tryz.func99, Tryz.ntmps99
  go_wp2
  go_ret
  exact none_post (Below.refl _ _) (Kp.refl _ _) HS.out
set_option maxHeartbeats 4000000 in
theorem take6_any {B R : Nat} {wd : List UInt8} {ln sn : ByteArray} {ls : List Lab} (w : World) (h : RdAt B R (6, wd, ln, sn, ls) w) (r : Int) :
    Calls Tryz.prog 99 #[.pointer (some ⟨R, 0, none⟩), .int .i32 r] w fun e w' => TPost B R (stepS (6, wd, ln, sn, ls) r) w e w' := by
  obtain ⟨lv, ⟨g0, _, _, _⟩, _, _⟩ := h.cells
  simp only at g0
  have HS : Hid (stepS (6, wd, ln, sn, ls) r = none) := by show _ = _; simp [stepS]
  clear h
  go_enter Tryz.func99, Tryz.ntmps99
  go_wp2
  go_ret
  exact none_post (Below.refl _ _) (Kp.refl _ _) HS.out
theorem take_any {B R : Nat} {p : Nat} {wd : List UInt8} {ln sn : ByteArray} {ls : List Lab} (w : World) (h : RdAt B R (p, wd, ln, sn, ls) w) (hp : p ≤ 6) (hls : ls.length ≤ 4) (r : Int) (hr0 : 0 ≤ r) (hr1 : r ≤ 2147483647) :
    Calls Tryz.prog 99 #[.pointer (some ⟨R, 0, none⟩), .int .i32 r] w fun e w' => TPost B R (stepS (p, wd, ln, sn, ls) r) w e w' := by
  match p, hp, h with
  | 0, _, h => exact take0_any w h r hr0 hr1
  | 1, _, h => exact take1_any w h r hr0 hr1
  | 2, _, h => exact take2_any w h r
  | 3, _, h => exact take3_any w h hls r hr0 hr1
  | 4, _, h => exact take4_any w h r hr0 hr1
  | 5, _, h => exact take5_any w h r
  | 6, _, h => exact take6_any w h r
theorem keepS_ok {r : Int} {st st' : St} (h : keepS r st = some st') : st'.1 = st.1 ∧ st'.2.2 = st.2.2 := by
  unfold keepS at h
  split at h
  · cases h
  · obtain rfl := Option.some.inj h
    exact ⟨rfl, rfl⟩
theorem stepS_ok {p : Nat} {wd : List UInt8} {ln sn : ByteArray} {ls : List Lab} {r : Int} {st : St} (hp : p ≤ 6) (hl : ls.length ≤ 4) (h : stepS (p, wd, ln, sn, ls) r = some st) : st.1 ≤ 6 ∧ st.2.2.2.2.length ≤ 4 := by
  unfold stepS at h
  simp only at h
  repeat' split at h
  all_goals first
    | (cases h; done)
    | (obtain rfl := Option.some.inj h; exact ⟨by simp, by simpa using hl⟩)
    | (obtain rfl := Option.some.inj h; exact ⟨by simp, by simp; omega⟩)
    | (obtain ⟨h1, h2⟩ := keepS_ok h; rw [h1, h2]; exact ⟨hp, hl⟩)
    | (obtain ⟨s, hs, rfl⟩ := Option.map_eq_some_iff.1 h; obtain ⟨h1, h2⟩ := keepS_ok hs; simp only [h2]; exact ⟨by simp, hl⟩)
end Go.Proofs.YtihohcmocejijaaGreat.Lb
namespace Go.Proofs.YtihohcmocejijaaGreat.Lb
open Go.ChangeShapes Go.WideShapes Go.ChangeAt Go.RowKit
open Go.Sort (SWO PermIn SortedIn)
def encL (x : Lab) : List Value := [.string x.1, .string x.2]
def cfB (x y : ByteArray) : Int := if ltB x y then -1 else if ltB y x then 1 else 0
set_option maxRecDepth 60000 in
theorem isNaN_any (s : ByteArray) (w : World) : Calls Tryz.prog 130 #[.string s] w fun e w' => e = .returned (.bool false) ∧ w' = w := by
  go_enter Tryz.func130, Tryz.ntmps130
  go_wp2
  go_ret
  exact ⟨rfl, rfl⟩
set_option maxRecDepth 60000 in
theorem gtB (x y : ByteArray) : (!(Op.bytesLess x.toList y.toList || x.toList == y.toList)) = ltB y x := by rw [ltB_leq]; simp
set_option maxHeartbeats 1000000 in
theorem compare_any (x y : ByteArray) (w : World) : Calls Tryz.prog 112 #[.string x, .string y] w fun e w' => e = .returned (.int .i64 (cfB x y)) ∧ w' = w := by
  have hgt := gtB x y
  cases h1 : ltB x y with
  | true =>
    have h1' : Op.bytesLess x.toList y.toList = true := h1
    have hc : cfB x y = -1 := by simp [cfB, h1]
    rw [hc]
    clear hgt
    go_enter Tryz.func112, Tryz.ntmps112
    go_wp2_with (go_at_call 130; refine (isNaN_any _ _).mono ?_; rintro e w' ⟨rfl, rfl⟩)
    go_ret
    exact ⟨rfl, rfl⟩
  | false =>
    have h1' : Op.bytesLess x.toList y.toList = false := h1
    cases h2 : ltB y x with
    | true =>
      rw [h2] at hgt
      have hc : cfB x y = 1 := by simp [cfB, h1, h2]
      rw [hc]
      have hne : (x.toList == y.toList) = false := by rw [h1'] at hgt; simpa using hgt
      clear hgt
      go_enter Tryz.func112, Tryz.ntmps112
      go_wp2_with (go_at_call 130; refine (isNaN_any _ _).mono ?_; rintro e w' ⟨rfl, rfl⟩)
      go_ret
      exact ⟨rfl, rfl⟩
    | false =>
      obtain rfl := ltB_total h1 h2
      have hc : cfB x x = 0 := by simp [cfB, h1]
      rw [hc]
      clear hgt
      go_enter Tryz.func112, Tryz.ntmps112
      go_wp2_with (go_at_call 130; refine (isNaN_any _ _).mono ?_; rintro e w' ⟨rfl, rfl⟩)
      go_ret
      exact ⟨rfl, rfl⟩
set_option maxHeartbeats 1000000 in
set_option maxRecDepth 60000 in
theorem closure_any (x y : Lab) (W : World) : Calls Tryz.prog 125 #[.agg #[.string x.1, .string x.2], .agg #[.string y.1, .string y.2]] W fun e w' => e = .returned (.int .i64 (cfB x.1 y.1)) ∧ ∃ q os', w' = Go.Sort.grow (W.drewN q) os' := by
  have hcon := fun W' => compare_any x.1 y.1 W'
  generalize cfB x.1 y.1 = r at hcon ⊢
  go_enter Tryz.func125, Tryz.ntmps125
  go_wp2_with (go_at_call 112; refine (hcon _).mono ?_; rintro e w' ⟨rfl, rfl⟩)
  go_ret
  exact ⟨rfl, 0, _, by rw [Go.Sort.alloc_eq_grow, Go.Sort.alloc_eq_grow, Go.Sort.grow_grow]; rfl⟩
set_option maxRecDepth 60000 in
theorem ltOf_cf (x y : Lab) : ltOf (fun x y : Lab => cfB x.1 y.1) x y = ltB x.1 y.1 := by
  unfold ltOf cfB
  cases h1 : ltB x.1 y.1 with
  | true => simp [h1]
  | false => cases h2 : ltB y.1 x.1 <;> simp [h1, h2]
set_option maxRecDepth 60000 in
theorem swo : SWO (ltOf fun x y : Lab => cfB x.1 y.1) := {
  irrefl := fun x => by rw [ltOf_cf]; exact ltB_irrefl _
  trans := fun x y z h1 h2 => by rw [ltOf_cf] at *; exact ltB_trans h1 h2
  ntrans := fun x y z h1 h2 => by
    rw [ltOf_cf] at *
    cases h3 : ltB x.1 z.1 with
    | false => rfl
    | true =>
      cases h4 : ltB y.1 x.1 with
      | true =>
        have := ltB_trans h4 h3
        rw [this] at h2
        cases h2
      | false =>
        have := ltB_total h1 h4
        rw [this] at h3
        rw [h3] at h2
        cases h2 }
set_option maxRecDepth 60000 in
theorem cellsLb_get (ls : List Lab) : ∀ i (h : i < ls.length), (cellsLb ls)[i * 2]? = some (.string ls[i].1) ∧ (cellsLb ls)[i * 2 + 1]? = some (.string ls[i].2) := by
  induction ls with
  | nil => intro i h; simp at h
  | cons p ps ih =>
    intro i h
    cases i with
    | zero => exact ⟨rfl, rfl⟩
    | succ i =>
      have h1 := ih i (by simpa using h)
      have e1 : (i + 1) * 2 = i * 2 + 1 + 1 := by omega
      rw [e1]
      exact h1
set_option maxRecDepth 60000 in
theorem flat_eq (d : Array Lab) : (Go.Sort.flatK encL 2 d).toList = cellsLb d.toList := by
  apply List.ext_getElem?
  intro t
  by_cases ht : t < d.size * 2
  · have h1 := Go.Sort.get_flatK encL 2 d t ht
    have h2 : (Go.Sort.flatK encL 2 d).toList[t]? = some (Go.Sort.flatK encL 2 d)[t]! := by
      rw [Array.getElem?_toList, getElem!_pos _ t (by simpa using ht), Array.getElem?_eq_getElem (by simpa using ht)]
    rw [h2, h1]
    have hi : t / 2 < d.size := by omega
    have hg := cellsLb_get d.toList (t / 2) (by simpa using hi)
    rw [getElem!_pos d (t / 2) hi]
    rcases Nat.mod_two_eq_zero_or_one t with hm | hm
    · have e : t = t / 2 * 2 := by omega
      rw [hm]
      rw [← e] at hg
      rw [hg.1]
      rfl
    · have e : t = t / 2 * 2 + 1 := by omega
      rw [hm]
      rw [← e] at hg
      rw [hg.2]
      rfl
  · rw [List.getElem?_eq_none (by simpa using ht), List.getElem?_eq_none (by rw [cellsLb_length]; simpa using ht)]
def SortedL (ls : List Lab) : Prop := ∀ i j, i < j → j < ls.length → ltB (ls.getD j lab0).1 (ls.getD i lab0).1 = false
def SortPost (B : Nat) (lv : Value) (ls : List Lab) (w w' : World) : Prop := (∃ ls' : List Lab, ls'.Perm ls ∧ SortedL ls' ∧ w'.ownsRow B 112 2 lv ls.length (cellsLb ls')) ∧ w.grownBy w' lv.ownBlock
set_option maxRecDepth 60000 in
theorem sorted_of {d d' : Array Lab} (hp : PermIn 0 d.size d d') (hs : SortedIn (ltOf fun x y : Lab => cfB x.1 y.1) 0 d.size d') : d'.toList.Perm d.toList ∧ SortedL d'.toList := by
  obtain ⟨h1, _, h3⟩ := hp
  refine ⟨?_, fun i j hij hj => ?_⟩
  · have e1 : d'.extract 0 d.size = d' := by rw [← h1]; simp
    have e2 : d.extract 0 d.size = d := by simp
    rw [e1, e2] at h3
    exact h3
  · have hj' : j < d'.size := by simpa using hj
    have h := hs i j (Nat.zero_le _) hij (by omega)
    rw [ltOf_cf, getElem!_pos d' j hj', getElem!_pos d' i (by omega)] at h
    have e1 : d'.toList.getD j lab0 = d'[j] := by simp [hj']
    have e2 : d'.toList.getD i lab0 = d'[i]'(by omega) := by simp [show i < d'.size by omega]
    rw [e1, e2]
    exact h
set_option maxRecDepth 60000 in
theorem bits_len (n : Nat) (W : World) (h : n ≤ 12) : Calls Tryz.prog 138 #[.int .u64 n] W fun e w' => (∃ l : Int, e = .returned (.int .i64 l)) ∧ w' = W :=
  (Any.bits_Len Lay.bits n W (by omega) (by omega)).mono fun _ _ ⟨he, hw⟩ => ⟨⟨_, he⟩, hw⟩
theorem sort_some (g cap : Nat) (ls : List Lab) (w : World) {B : Nat} (h : w.ownsRow B 112 2 (.slice (some ⟨g, 0, none⟩) ls.length cap) ls.length (cellsLb ls)) (h12 : ls.length ≤ 12) :
    Calls Tryz.prog 124 #[.slice (some ⟨g, 0, none⟩) ls.length cap, .func (.func 125) #[] #[]] w fun e w' => e = .returned (.tuple #[]) ∧ SortPost B (.slice (some ⟨g, 0, none⟩) ls.length cap) ls w w' := by
  have eg : ∀ args w, (callFunc 125 args).run Tryz.prog w = .ok (.enter 125 args) w := enters_of Tryz.func125 (by kernel_rfl) rfl
  have hown := h
  obtain ⟨hl, ⟨hv, _⟩ | ⟨g', cap', cur, hv, hB, hh, hc, hcm, hcs, ht⟩⟩ := h
  · cases hv
  injection hv with ha _ hcap
  injection ha with ha
  injection ha with hgg _ _
  subst hgg
  subst hcap
  have hgl : g < w.heap.size := (Array.getElem?_eq_some_iff.1 hh).1
  have hH : Go.Sort.HoldsK encL 2 w g 0 ls.toArray := by
    intro j hj
    rw [Go.Sort.size_flatK] at hj
    have hj' : j < ls.length * 2 := by simpa using hj
    have e := flat_eq ls.toArray
    have hx : (cellsLb ls)[j]? = some (Go.Sort.flatK encL 2 ls.toArray)[j]! := by
      have e2 : ls = ls.toArray.toList := by simp
      rw [e2, ← e, Array.getElem?_toList, Array.getElem?_eq_getElem (by simpa using hj'), getElem!_pos _ j (by simpa using hj')]
    refine ⟨?_, ?_⟩
    · rw [Nat.zero_add, hown.cellAt j (by omega), hx]
      rfl
    · rw [Nat.zero_add]
      exact Lib.frozen_of_heap hh j
  have hcon := AnyQ.slices_SortFunc_small_sorted Lay.sort 2 Tryz.isAgg112 Tryz.sizeOf112 encL (fun _ => rfl) (fun x v hv => by simp [encL] at hv; rcases hv with rfl | rfl <;> rfl) (fun x y => cfB x.1 y.1) 125 #[] swo g 0 cap ls.toArray w eg (fun _ _ _ _ x y => closure_any x y _) hH hgl (by simpa using h12) bits_len
  have hsz : ls.toArray.size = ls.length := by simp
  rw [hsz] at hcon
  refine Calls.mono hcon ?_
  rintro e w' ⟨he, d', n, os, hp, hs, rfl⟩
  have hp' : PermIn 0 ls.toArray.size ls.toArray d' := by rw [hsz]; exact hp
  have hs' : SortedIn (ltOf fun x y : Lab => cfB x.1 y.1) 0 ls.toArray.size d' := by rw [hsz]; exact hs
  obtain ⟨hperm, hsort⟩ := sorted_of hp' hs'
  have hds : d'.size = ls.length := by have := hp.1; simpa using this
  have hheap : ∀ k, k < w.heap.size → (Go.Proofs.sortWorldK encL 2 w g 0 n d' os).heap[k]? = if k = g then some (.cells (Go.Sort.putCells id 0 (Go.Sort.flatK encL 2 d') cur) 112 (0, 0)) else w.heap[k]? := by
    intro k hk
    show ((w.heap.modify g (Go.Sort.onCells (Go.Sort.putCells id 0 (Go.Sort.flatK encL 2 d')))) ++ os)[k]? = _
    rw [Array.getElem?_append_left (by simpa using hk), Array.getElem?_modify]
    by_cases hkg : k = g
    · subst hkg
      rw [if_pos rfl, if_pos rfl, hh]
      rfl
    · rw [if_neg (fun e => hkg e.symm), if_neg hkg]
  refine ⟨he, ⟨d'.toList, by simpa using hperm, hsort, ?_, .inr ⟨g, cap, Go.Sort.putCells id 0 (Go.Sort.flatK encL 2 d') cur, rfl, hB, ?_, hc, hcm, ?_, ?_⟩⟩, ?_⟩
  · rw [cellsLb_length]; simp [hds]
  · rw [hheap g hgl, if_pos rfl]
  · simp [Go.Sort.putCells, hcs]
  · rw [← flat_eq d']
    apply List.ext_getElem?
    intro t
    have hfs : (Go.Sort.flatK encL 2 d').size = ls.length * 2 := by simp [hds]
    by_cases htl : t < ls.length * 2
    · rw [List.getElem?_take_of_lt htl, Array.getElem?_toList, Array.getElem?_toList]
      unfold Go.Sort.putCells
      rw [Array.getElem?_mapIdx, Array.getElem?_eq_getElem (by omega), Array.getElem?_eq_getElem (by omega)]
      simp only [Option.map_some]
      rw [if_pos ⟨Nat.zero_le _, by omega⟩, Nat.sub_zero, getElem!_pos _ t (by omega)]
      rfl
    · rw [List.getElem?_eq_none (by simp; omega), List.getElem?_eq_none (by simp; omega)]
  · refine ⟨rfl, rfl, rfl, ?_, fun k hk hne => ?_⟩
    · show w.heap.size ≤ ((w.heap.modify g _) ++ os).size
      simp
    · rw [hheap k hk, if_neg (fun e => hne (by rw [e]; rfl))]
set_option maxHeartbeats 2000000 in
set_option maxRecDepth 60000 in
theorem insert_none (p : Option Addr) (cap : Nat) (fv : Value) (w : World) : Calls Tryz.prog 143 #[.slice p 0 cap, .int .i64 0, .int .i64 0, fv] w fun e w' => e = .returned (.tuple #[]) ∧ w' = w := by
  go_enter Tryz.func143, Tryz.ntmps143
  go_wp2
  refine wp_loop_rounds 1 ?_
  rw [rounds_succ]
  go_wp2
  go_end0
  exact ⟨rfl, rfl⟩
set_option maxHeartbeats 2000000 in
set_option maxRecDepth 60000 in
theorem pdq_none (p : Option Addr) (cap : Nat) (lim : Int) (fv : Value) (w : World) : Calls Tryz.prog 137 #[.slice p 0 cap, .int .i64 0, .int .i64 0, .int .i64 lim, fv] w fun e w' => e = .returned (.tuple #[]) ∧ w' = w := by
  go_enter Tryz.func137, Tryz.ntmps137
  go_wp2
  refine wp_loop_rounds 1 ?_
  rw [rounds_succ]
  go_wp2_with (go_at_call 143; refine (insert_none _ _ _ _).mono ?_; rintro e w' ⟨rfl, rfl⟩)
  (try simp only [Exit.inBlock, Exit.then]); refine bodyPost_ret (results_none rfl _ _ _) rfl ?_
  exact ⟨rfl, rfl⟩
set_option maxHeartbeats 2000000 in
set_option maxRecDepth 60000 in
theorem sort_none (p : Option Addr) (cap : Nat) (fv : Value) (w : World) : Calls Tryz.prog 124 #[.slice p 0 cap, fv] w fun e w' => e = .returned (.tuple #[]) ∧ w' = w := by
  have hl : ∀ W, Calls Tryz.prog 138 #[.int .u64 0] W fun e w' => (∃ l : Int, e = .returned (.int .i64 l)) ∧ w' = W := fun W => bits_len 0 W (by omega)
  go_enter Tryz.func124, Tryz.ntmps124
  go_wp2_with (first | (go_at_call 138; refine (hl _).mono ?_; rintro e w' ⟨⟨l, rfl⟩, rfl⟩) | (go_at_call 137; refine (pdq_none _ _ _ _ _).mono ?_; rintro e w' ⟨rfl, rfl⟩))
  go_end0
  exact ⟨rfl, rfl⟩
set_option maxHeartbeats 2000000 in
set_option maxRecDepth 60000 in
theorem sortLabels_any {B : Nat} (lv : Value) (ls : List Lab) (w : World) (h : w.ownsRow B 112 2 lv ls.length (cellsLb ls)) (h12 : ls.length ≤ 12) :
    Calls Tryz.prog 101 #[lv] w fun e w' => e = .returned (.tuple #[]) ∧ SortPost B lv ls w w' := by
  have hown := h
  rcases h.2 with ⟨rfl, h0⟩ | ⟨g, cap, cur, rfl, _⟩
  · have HP : Hid (SortPost B (.slice none 0 0) ls w w) := ⟨⟨ls, List.Perm.refl _, fun i j _ hj => by omega, hown⟩, rfl, rfl, rfl, Nat.le_refl _, fun _ _ _ => rfl⟩
    clear h hown
    go_enter Tryz.func101, Tryz.ntmps101
    go_wp2_with (go_at_call 124; refine (sort_none _ _ _ _).mono ?_; rintro e w' ⟨rfl, rfl⟩)
    go_end0
    exact ⟨rfl, HP.out⟩
  · have hcon := sort_some g cap ls w hown h12
    clear h hown
    go_enter Tryz.func101, Tryz.ntmps101
    go_wp2_with (go_at_call 124; refine hcon.mono ?_; rintro e w' ⟨rfl, hP⟩)
    go_end0
    exact ⟨rfl, hP⟩
end Go.Proofs.YtihohcmocejijaaGreat.Lb
