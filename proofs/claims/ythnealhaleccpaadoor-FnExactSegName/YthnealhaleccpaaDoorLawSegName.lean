/-
  The walks of the exact laws of SegName and of HintName.
-/
import Derived.Test.YthnealhaleccpaaDoorNamesImpl
namespace Go.Proofs.YthnealhaleccpaaDoor
open Go.RowKit
open Plain

set_option maxRecDepth 100000 in
set_option maxHeartbeats 1000000 in
theorem lawSegName_walk (n : Int) (w : World) (htab : Tab w) :
    Calls Tryd.prog 5 #[.int .i64 n] w fun e w' => e = .returned (.bool true) ∧ Below w.heap.size w w' := by
  have HT := hide htab
  have HS := hide (specSeg_any n)
  have HI := hide (fun W h => implSeg_any n W h)
  clear htab
  generalize segS n = t at *
  go_enter Tryd.func5, Tryd.ntmps5
  go_wp2_with fail
  refine (HS.out _).mono ?_
  rintro e w2 ⟨rfl, hb2⟩
  have HT2 := hide (HT.out.later hb2)
  have HB2 := hide hb2
  clear hb2 HT HS
  go_wp2_with fail
  refine (HI.out _ HT2.out).mono ?_
  rintro e w3 ⟨rfl, hb3⟩
  have HB3 := hide (HB2.out.trans (hb3.mono HB2.out.size))
  clear hb3 HT2 HB2 HI
  go_wp2
  go_ret
  exact ⟨rfl, HB3.out⟩

end Go.Proofs.YthnealhaleccpaaDoor
