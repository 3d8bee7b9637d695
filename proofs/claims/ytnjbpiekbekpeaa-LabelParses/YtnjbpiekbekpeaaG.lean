/-
  The reader's takeValue and take: one sign is read, as the plain machine reads it.
-/
import Derived.Test.YtnjbpiekbekpeaaF
namespace Go.Proofs.Ytnjbpiekbekpeaa
open Go.ChangeShapes Go.WideShapes Go.ChangeAt Go.RowKit
theorem RdAt.len {B R : Nat} {p : Nat} {wd : List UInt8} {r : ByteArray × ByteArray × List Lab} {w : World} (h : RdAt B R (p, wd, r) w) : RdAt B R (p, wd, r) w := h
theorem move_post {B R : Nat} {st : St} {w w' : World} (h : RPost B R st w w') {o : Option St} (ho : o = some st) : TPost B R o w (.returned (.bool true)) w' := by
  subst ho; exact ⟨h.2.1, h.2.2, .inr ⟨_, rfl, rfl, h.1⟩⟩
theorem none_post {B R : Nat} {w w' : World} (h1 : Below B w w') (h2 : Kp R w w') {o : Option St} (ho : o = none) : TPost B R o w (.returned (.bool false)) w' := by
  subst ho; exact ⟨h1, h2, .inl ⟨rfl, rfl⟩⟩
theorem TPost.eq {B R : Nat} {o o' : Option St} {w : World} {e : Ending} {w' : World} (h : TPost B R o w e w') (ho : o' = o) : TPost B R o' w e w' := by subst ho; exact h
theorem TPost.bool {B R : Nat} {o : Option St} {w : World} {e : Ending} {w' : World} (h : TPost B R o w e w') : ∃ q : Bool, e = .returned (.bool q) := by
  rcases h.2.2 with ⟨_, h⟩ | ⟨_, _, h, _⟩
  · exact ⟨_, h⟩
  · exact ⟨_, h⟩
set_option maxHeartbeats 4000000 in
theorem takeValue_any {B R : Nat} {wd : List UInt8} {ln sn : ByteArray} {ls : List Lab} (w : World) (h : RdAt B R (3, wd, ln, sn, ls) w) (hls : ls.length ≤ 4) (r : Int) (hr0 : 0 ≤ r) (hr1 : r ≤ 2147483647) :
    Calls Try.prog 43 #[.pointer (some ⟨R, 0, none⟩), .int .i32 r] w fun e w' => TPost B R (stepS (3, wd, ln, sn, ls) r) w e w' := by
  by_cases h92 : r = 92
  · have HS : Hid (stepS (3, wd, ln, sn, ls) r = some (4, wd, ln, sn, ls)) := by show _ = _; simp [stepS, h92]
    subst h92
    go_enter Try.func43, Try.ntmps43
    go_wp2_with fail
    refine (move_any _ h 4).mono ?_
    rintro e w1 ⟨rfl, hp⟩
    have HP : Hid (RPost B R (4, wd, ln, sn, ls) w w1) := hp
    clear hp h
    go_wp2
    go_ret
    exact move_post HP.out HS.out
  have n92 : (r == 92) = false := by simpa using h92
  by_cases h34 : r = 34
  · have HS : Hid (stepS (3, wd, ln, sn, ls) r = (if ls.length + 1 ≤ 4 then some (5, [], ln, sn, ls ++ [(ln, baL wd)]) else none)) := by show _ = _; simp [stepS, h34]
    subst h34
    go_enter Try.func43, Try.ntmps43
    go_wp2_with fail
    refine (endLabel_any _ h hls).mono ?_
    rintro e w1 ⟨hb1, hk1, hc⟩
    by_cases h4 : ls.length + 1 ≤ 4
    · rw [if_pos h4] at hc
      have HS2 : Hid (stepS (3, wd, ln, sn, ls) 34 = some (5, [], ln, sn, ls ++ [(ln, baL wd)])) := by show _ = _; rw [HS.out, if_pos h4]
      rcases hc with ⟨hc, _⟩ | ⟨st, hc, rfl, hrd⟩
      · cases hc
      obtain rfl := Option.some.inj hc
      clear hc HS
      go_wp2_with fail
      refine (move_any _ hrd 5).mono ?_
      rintro e w2 ⟨rfl, hp⟩
      have HP : Hid (RPost B R (5, [], ln, sn, ls ++ [(ln, baL wd)]) w w2) := ⟨hp.1, hb1.trans hp.2.1, hk1.trans hp.2.2⟩
      clear hp hrd h hb1 hk1
      go_wp2
      go_ret
      exact move_post HP.out HS2.out
    · rw [if_neg h4] at hc
      have HS2 : Hid (stepS (3, wd, ln, sn, ls) 34 = none) := by show _ = _; rw [HS.out, if_neg h4]
      rcases hc with ⟨_, rfl⟩ | ⟨st, hc, _⟩
      rotate_left
      · cases hc
      have HB : Hid (Below B w w1) := hb1
      have HK : Hid (Kp R w w1) := hk1
      clear HS h hb1 hk1
      go_wp2
      go_ret
      exact none_post HB.out HK.out HS2.out
  have n34 : (r == 34) = false := by simpa using h34
  have HS : Hid (stepS (3, wd, ln, sn, ls) r = keepS r (3, wd, ln, sn, ls)) := by show _ = _; simp [stepS, h34, h92]
  go_enter Try.func43, Try.ntmps43
  go_wp2_with fail
  refine (keep_any _ h r hr0 hr1).mono ?_
  rintro e w1 hT
  obtain ⟨q, rfl⟩ := hT.bool
  have HT : Hid (TPost B R (stepS (3, wd, ln, sn, ls) r) w (.returned (.bool q)) w1) := hT.eq HS.out
  clear hT h
  go_wp2
  go_ret
  exact HT.out
end Go.Proofs.Ytnjbpiekbekpeaa
