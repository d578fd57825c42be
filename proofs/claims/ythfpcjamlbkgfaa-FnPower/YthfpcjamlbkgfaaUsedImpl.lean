/-
  impl.Used and impl.DiskNew.
-/
import Derived.Test.YthfpcjamlbkgfaaDiskOkImpl
import Derived.Test.YthfpcjamlbkgfaaAskSpec
import Derived.Test.YthfpcjamlbkgfaaNewSpec
namespace Go.Proofs.Ythfpcjamlbkgfaa
open Go.RowKit
open Plain

set_option maxRecDepth 100000 in
set_option maxHeartbeats 1000000 in
theorem implUsedA_any (w : World) (a : Option Addr) (n cap : Nat) (fs : List FileV) (hr : FRow w 0 a n fs) (hn : n ≤ 1048576) (hz : szFs fs ≤ 1048576) (c u : Int) (d : Bool) :
    Calls Try.prog 16 #[.agg #[.slice a n cap, .int .i64 c, .int .i64 u, .bool d]] w fun e w' => e = .returned (.int .i64 (usedA fs c u)) ∧ Below w.heap.size w w' := by
  have hus := usedF_le_sz fs
  have hbx := box4 w (.slice a n cap) (.int .i64 c) (.int .i64 u) (.bool d) 26
  obtain ⟨W, hW⟩ : ∃ W, W = w.alloc (.cells #[.slice a n cap, .int .i64 c, .int .i64 u, .bool d] 26) := ⟨_, rfl⟩
  rw [← hW] at hbx
  have HR := hide (hr.later hbx.1 (Nat.le_refl _))
  have HB := hide hbx.1
  have HX := hide hbx.2
  have HS : Hid (w.heap.size < W.heap.size) := hide (by rw [hW]; simp)
  clear hr hbx
  go_enter Try.func16, Try.ntmps16
  go_wp2_with fail
  rw [← hW]
  clear hW
  refine (implOk_any W a n cap fs HR.out (by omega) (by omega) c u d).mono ?_
  rintro e w1 ⟨rfl, hb1⟩
  have HR1 := hide (HR.out.later hb1 (Nat.le_refl _))
  have HX1 := hide ((hb1.block _ HS.out).trans HX.out)
  have HB1 := hide (HB.out.trans (hb1.mono HB.out.size))
  clear hb1 HR HX HB HS
  by_cases q : diskOk fs c u = true
  · have HV : Hid (usedA fs c u = (usedF fs : Int)) := hide (by unfold usedA; rw [if_pos q])
    rw [q]
    obtain ⟨y0, y1, y2, y3, -⟩ := cells4 HX1.out
    go_wp2_with fail
    clear y0 y1 y2 y3
    refine (implBytes_any w1 a n cap fs HR1.out (by omega) (by omega)).mono ?_
    rintro e w2 ⟨rfl, hb2⟩
    have HB2 := hide (HB1.out.trans (hb2.mono HB1.out.size))
    clear hb2
    go_wp2
    go_ret
    exact ⟨by rw [HV.out]; rfl, HB2.out⟩
  · have q' : diskOk fs c u = false := by simpa using q
    have HV : Hid (usedA fs c u = 0) := hide (by unfold usedA; rw [if_neg q])
    rw [q']
    go_wp2
    go_ret
    exact ⟨by rw [HV.out]; rfl, HB1.out⟩

end Go.Proofs.Ythfpcjamlbkgfaa
