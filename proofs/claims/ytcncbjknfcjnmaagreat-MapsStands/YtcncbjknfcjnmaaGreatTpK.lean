/-
  The contracts of Zones, Racks and Leaves.
-/
import Derived.Test.YtcncbjknfcjnmaaGreatTpJ
import Derived.Test.YtcncbjknfcjnmaaGreatTpIz
import Derived.Test.YtcncbjknfcjnmaaGreatTpIl
import Derived.Test.YtcncbjknfcjnmaaGreatTpIr
namespace Go.Proofs.YtcncbjknfcjnmaaGreat.Tp
open Go.ChangeShapes Go.WideShapes Go.ChangeAt Go.RowKit
theorem zones_any (a : Option Addr) (len cap : Nat) (ls : List Nd) (w : World) (h : NdsAt w a len cap ls) :
    Calls Tryz.prog 166 #[.slice a len cap] w fun e w' => WeighPost zoneF 0 0 ls w e w' := by
  have HW : Hid (Calls Tryz.prog 179 #[.slice a len cap, .int .i64 0, .int .i64 0, .func (.func 180) #[] #[]] w fun e w' => WeighPost zoneF 0 0 ls w e w') := weigh_of zoneF _ a len cap ls 0 0 w h (fun hM W hW => loadsZ_any a len cap ls 0 0 W hW hM)
  clear h
  go_enter Tryz.func166, Tryz.ntmps166
  go_wp2_with fail
  refine HW.out.mono ?_
  rintro e w2 ⟨hb2, a', cap', out, rfl, hc, h12, hI⟩
  have HP : Hid (WeighPost zoneF 0 0 ls w (.returned (.slice a' out.length cap')) w2) := ⟨hb2, a', cap', out, rfl, hc, h12, hI⟩
  clear hb2 hc h12 hI HW
  go_wp2_with fail
  go_ret
  exact HP.out
theorem racks_any (a : Option Addr) (len cap : Nat) (ls : List Nd) (zone : Int) (w : World) (h : NdsAt w a len cap ls) :
    Calls Tryz.prog 167 #[.slice a len cap, .int .i64 zone] w fun e w' => WeighPost rackF zone 0 ls w e w' := by
  have HW : Hid (Calls Tryz.prog 179 #[.slice a len cap, .int .i64 zone, .int .i64 0, .func (.func 181) #[] #[]] w fun e w' => WeighPost rackF zone 0 ls w e w') := weigh_of rackF _ a len cap ls zone 0 w h (fun hM W hW => loadsR_any a len cap ls zone 0 W hW hM)
  clear h
  go_enter Tryz.func167, Tryz.ntmps167
  go_wp2_with fail
  refine HW.out.mono ?_
  rintro e w2 ⟨hb2, a', cap', out, rfl, hc, h12, hI⟩
  have HP : Hid (WeighPost rackF zone 0 ls w (.returned (.slice a' out.length cap')) w2) := ⟨hb2, a', cap', out, rfl, hc, h12, hI⟩
  clear hb2 hc h12 hI HW
  go_wp2_with fail
  go_ret
  exact HP.out
theorem leaves_any (a : Option Addr) (len cap : Nat) (ls : List Nd) (zone rack : Int) (w : World) (h : NdsAt w a len cap ls) :
    Calls Tryz.prog 168 #[.slice a len cap, .int .i64 zone, .int .i64 rack] w fun e w' => WeighPost leafF zone rack ls w e w' := by
  have HW : Hid (Calls Tryz.prog 179 #[.slice a len cap, .int .i64 zone, .int .i64 rack, .func (.func 182) #[] #[]] w fun e w' => WeighPost leafF zone rack ls w e w') := weigh_of leafF _ a len cap ls zone rack w h (fun hM W hW => loadsL_any a len cap ls zone rack W hW hM)
  clear h
  go_enter Tryz.func168, Tryz.ntmps168
  go_wp2_with fail
  refine HW.out.mono ?_
  rintro e w2 ⟨hb2, a', cap', out, rfl, hc, h12, hI⟩
  have HP : Hid (WeighPost leafF zone rack ls w (.returned (.slice a' out.length cap')) w2) := ⟨hb2, a', cap', out, rfl, hc, h12, hI⟩
  clear hb2 hc h12 hI HW
  go_wp2_with fail
  go_ret
  exact HP.out
end Go.Proofs.YtcncbjknfcjnmaaGreat.Tp
