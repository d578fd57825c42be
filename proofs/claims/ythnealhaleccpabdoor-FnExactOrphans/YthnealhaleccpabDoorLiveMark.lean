/-
  The laws' markLive.
-/
import Derived.Test.YthnealhaleccpabDoorIntMark
import Derived.Test.YthnealhaleccpabDoorLiveBase
namespace Go.Proofs.YthnealhaleccpabDoor
open Go.RowKit
open Plain

set_option maxRecDepth 100000 in
set_option maxHeartbeats 1000000 in
theorem markLive_any (w : World) (base : Nat) (x : Int) (a : Option Addr) (n cap : Nat) (zs : List Int) (hn : n ≤ 1048576) (k : Nat) (hk : k ≤ 1099511627776) (ho : IOwn w base (.slice a n cap) zs) :
    Calls Tryd.prog 17 #[.agg #[.int .i64 x, .slice a n cap], .int .i64 k] w fun e w' => e = .returned (.int .i64 (k + n : Nat)) ∧ IOwn w' base (.slice a n cap) (upI n k) ∧ w.grownBy w' (Value.slice a n cap).ownBlock := by
  obtain ⟨W, hW⟩ : ∃ W, W = w.alloc (.cells #[.int .i64 x, .slice a n cap] 39) := ⟨_, rfl⟩
  have hbw : Below w.heap.size w W := by rw [hW]; exact (Below.refl _ _).alloc (Nat.le_refl _) _
  have HH := hide (markIntS_any W base a n cap zs (ho.later hbw (Nat.le_refl _)) (by omega) k (by omega))
  have HG := hide (below_grown (Value.slice a n cap).ownBlock hbw)
  clear ho hbw
  go_enter Tryd.func17, Tryd.ntmps17
  go_wp2_with fail
  rw [← hW]
  clear hW
  refine HH.out.mono ?_
  rintro e w1 ⟨rfl, ho1, hg1⟩
  have HO := hide ho1
  have HG1 := hide (grown_chain HG.out hg1)
  clear hg1 HH HG ho1
  go_wp2
  go_ret
  exact ⟨rfl, HO.out, HG1.out⟩

end Go.Proofs.YthnealhaleccpabDoor
