/-
  The walk of the exact law of IdOf.
-/
import Derived.Test.YthnealhaleccpabDoorNamesIdS
import Derived.Test.YthnealhaleccpabDoorNamesIdI
namespace Go.Proofs.YthnealhaleccpabDoor
open Go.RowKit
open Plain

set_option maxRecDepth 100000 in
set_option maxHeartbeats 1000000 in
theorem lawIdOf_walk (s : ByteArray) (w : World) (htab : Tab w) (hsyn : Syn w) :
    Calls Tryd.prog 3 #[.string s] w fun e w' => e = .returned (.bool true) ∧ Below w.heap.size w w' := by
  by_cases hb : s.size ≤ 1048576
  · have t0 : decide ((1048576 : Int) < (s.size : Int)) = false := by simp; omega
    have HT := hide htab
    have HY := hide hsyn
    have HS := hide (specIdOf_any s hb)
    have HI := hide (fun W h1 h2 => implIdOf_any s hb W h1 h2)
    clear hb htab hsyn
    generalize (io s).1 = n at *
    generalize (io s).2 = ok at *
    go_enter Tryd.func3, Tryd.ntmps3
    go_wp2_with fail
    refine (HS.out _).mono ?_
    rintro e w2 ⟨rfl, hb2⟩
    have HT2 := hide (HT.out.later hb2)
    have HY2 := hide (HY.out.later hb2)
    have HB2 := hide hb2
    clear hb2 HT HY HS
    go_wp2_with fail
    refine (HI.out _ HT2.out HY2.out).mono ?_
    rintro e w3 ⟨rfl, hb3⟩
    have HB3 := hide (HB2.out.trans (hb3.mono HB2.out.size))
    clear hb3 HT2 HY2 HB2 HI
    go_wp2
    go_ret
    exact ⟨rfl, HB3.out⟩
  · have t0 : decide ((1048576 : Int) < (s.size : Int)) = true := by simp; omega
    go_enter Tryd.func3, Tryd.ntmps3
    go_wp2
    go_ret
    exact ⟨rfl, Below.refl _ _⟩

end Go.Proofs.YthnealhaleccpabDoor
