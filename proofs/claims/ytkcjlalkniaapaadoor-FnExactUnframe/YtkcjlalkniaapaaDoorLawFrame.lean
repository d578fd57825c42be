/-
  The walks of the exact laws of Frame and of Unframe.
-/
import Derived.Test.YtkcjlalkniaapaaDoorFrameImpl
import Derived.Test.YtkcjlalkniaapaaDoorFrameSpec
namespace Go.Proofs.YtkcjlalkniaapaaDoor
open Go.RowKit
open Plain

set_option maxRecDepth 100000 in
set_option maxHeartbeats 1000000 in
theorem lawFrame_walk (a0 : ByteArray) (w0 : a0.size ≤ maxLen) (w : World) (htab : STab w) :
    Calls Tryd.prog 4 #[.string a0] w fun e w' => e = .returned (.bool true) ∧ Below w.heap.size w w' := by
  have HT := hide htab
  clear htab
  by_cases hb : a0.size ≤ 1048576
  · have t0 : decide ((1048576 : Int) < (a0.size : Int)) = false := by simp; omega
    have HS := hide (specFrame_any a0 hb)
    have HI := hide (implFrame_any a0 hb)
    clear hb
    generalize frameS a0 = F at *
    go_enter Tryd.func4, Tryd.ntmps4
    go_wp2_with fail
    refine (HS.out _).mono ?_
    rintro e w2 ⟨rfl, hb2⟩
    have HT2 := hide (HT.out.later hb2)
    have HB2 := hide hb2
    clear hb2 HT HS
    go_wp2_with fail
    refine (HI.out _ HT2.out).mono ?_
    rintro e w3 ⟨rfl, hb3⟩
    have HB3 := hide (HB2.out.trans (hb3.mono HB2.out.size))
    clear hb3 HT2 HB2 HI
    go_wp2
    go_ret
    exact ⟨rfl, HB3.out⟩
  · unfold maxLen at w0
    go_enter Tryd.func4, Tryd.ntmps4
    go_wp2
    go_ret
    exact ⟨rfl, Below.refl _ _⟩

set_option maxRecDepth 100000 in
set_option maxHeartbeats 1000000 in
theorem lawUnframe_walk (a0 : ByteArray) (w0 : a0.size ≤ maxLen) (w : World) (htab : STab w) :
    Calls Tryd.prog 5 #[.string a0] w fun e w' => e = .returned (.bool true) ∧ Below w.heap.size w w' := by
  have HT := hide htab
  clear htab
  by_cases hb : a0.size ≤ 1048576
  · have t0 : decide ((1048576 : Int) < (a0.size : Int)) = false := by simp; omega
    have HS := hide (specUnframe_any a0 hb)
    have HI := hide (implUnframe_any a0 hb)
    clear hb
    generalize (uf a0).1 = F at *
    generalize (uf a0).2 = n at *
    go_enter Tryd.func5, Tryd.ntmps5
    go_wp2_with fail
    refine (HS.out _).mono ?_
    rintro e w2 ⟨rfl, hb2⟩
    have HT2 := hide (HT.out.later hb2)
    have HB2 := hide hb2
    clear hb2 HT HS
    go_wp2_with fail
    refine (HI.out _ HT2.out).mono ?_
    rintro e w3 ⟨rfl, hb3⟩
    have HB3 := hide (HB2.out.trans (hb3.mono HB2.out.size))
    clear hb3 HT2 HB2 HI
    go_wp2
    go_ret
    exact ⟨rfl, HB3.out⟩
  · unfold maxLen at w0
    go_enter Tryd.func5, Tryd.ntmps5
    go_wp2
    go_ret
    exact ⟨rfl, Below.refl _ _⟩

end Go.Proofs.YtkcjlalkniaapaaDoor
