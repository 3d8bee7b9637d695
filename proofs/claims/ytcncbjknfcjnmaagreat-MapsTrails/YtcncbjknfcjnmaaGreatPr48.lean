/-
  The law MapsTrails, of whatever map and deltas.
-/
import Derived.Test.YtcncbjknfcjnmaaGreatPr42
import Derived.Test.YtcncbjknfcjnmaaGreatPr43
import Derived.Test.YtcncbjknfcjnmaaGreatPr47
namespace Go.Proofs.YtcncbjknfcjnmaaGreat.Tp
open Go.ChangeShapes Go.WideShapes Go.ChangeAt Go.RowKit
theorem mapsTrails_any (m : Mp) (s : MV) (a : Option Addr) (len cap : Nat) (ls : List Dl) (w : World) (h : MapAt w m s) (hD : DlsAt w a len cap ls) :
  Calls Tryz.prog 8 #[.agg (mapCells m s).toArray,.slice a len cap] w fun e w' => e = .returned (.bool true) /\ Below w.heap.size w w' := by
 have HDL : Hid (∀ W,Below w.heap.size w W -> Calls Tryz.prog 27 #[.slice a len cap] W fun e w' => FewPost len W e w') := fun W hb => deltas_few W (hD.below hb)
 by_cases hM : MayM m
 ·have h8 : m.trs.length <= 20 := by
   have := hM.trs.1
   have := hM.cnt.2.2.2
   omega
  have HL := fun W (hb : Below w.heap.size w W) => light_few h8 W (h.below hb)
  have HMY : ∀ W,Below w.heap.size w W -> Calls Tryz.prog 13 #[.agg (mapCells m s).toArray] W fun e w' => e = .returned (.bool true) /\ Below W.heap.size W w' := fun W hb => (refMay_any8 W (h.below hb)).mono fun e w' ⟨hb',q,he,hq⟩ => ⟨by rw [he,hq.2 hM],hb'⟩
  rw [map_split] at HL HMY ⊢
  by_cases hep : m.ep <= 1000000
  ·exact trails_main hM hep w h hD HL HDL HMY
  ·exact trails_far hM (by omega) w h hD HL HDL HMY
 ·have HL := fun W (hb : Below w.heap.size w W) => light_all W (h.below hb)
  have HMY : ∀ W,Below w.heap.size w W -> Calls Tryz.prog 13 #[.agg (mapCells m s).toArray] W fun e w' => e = .returned (.bool false) /\ Below W.heap.size W w' := fun W hb => (refMay_any8 W (h.below hb)).mono fun e w' ⟨hb',q,he,hq⟩ => ⟨by rw [he]; cases q with | false => rfl | true => exact absurd (hq.1 rfl) hM,hb'⟩
  rw [map_split] at HL HMY ⊢
  exact trails_not w h hD HL HDL HMY
end Go.Proofs.YtcncbjknfcjnmaaGreat.Tp
