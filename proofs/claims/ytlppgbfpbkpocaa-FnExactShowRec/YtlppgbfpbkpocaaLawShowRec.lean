/-
  The walk of an exact law of a question on a record, over contracts of spec's and of impl's function: both answer z.
-/
import Derived.Test.YtlppgbfpbkpocaaLawRecBase
namespace Go.Proofs.Ytlppgbfpbkpocaa
open Go.RowKit
open Plain

set_option maxRecDepth 100000 in
set_option maxHeartbeats 4000000 in
theorem law6_walk (w : World) (r : RecV) (hk : r.key.size ≤ maxLen) (hv : r.val.size ≤ maxLen) (z : ByteArray)
    (hS : szR r ≤ 1048576 → Ans 19 #[.agg #[.int .i64 r.kind, .int .i64 r.batch, .string r.key, .string r.val, .int .i64 r.cnt, .int .i64 r.sum]] (.string z))
    (hI : szR r ≤ 1048576 → Ans 10 #[.agg #[.int .i64 r.kind, .int .i64 r.batch, .string r.key, .string r.val, .int .i64 r.cnt, .int .i64 r.sum]] (.string z)) :
    Calls Try.prog 6 #[.agg #[.int .i64 r.kind, .int .i64 r.batch, .string r.key, .string r.val, .int .i64 r.cnt, .int .i64 r.sum]] w fun e w' => e = .returned (.bool true) ∧ Below w.heap.size w w' := by
  have HA := hide (LRecAt.new w r)
  go_enter Try.func6, Try.ntmps6
  go_wp2_with fail
  refine (szRec_any r 1048576 (by omega) (by omega) hk hv _).mono ?_
  rintro e w1 ⟨rfl, hb1⟩
  have HA1 := hide (HA.out.later hb1)
  clear HA hb1
  by_cases hsz : szR r ≤ 1048576
  · have HSP := hide (hS hsz)
    have HIM := hide (hI hsz)
    rw [lessR_yes (by omega)]
    obtain ⟨L0, hL0⟩ : ∃ L0 : Int, (1048576 : Int) - (szR r : Int) = L0 ∧ 0 ≤ L0 := ⟨_, rfl, by omega⟩
    rw [hL0.1]
    have hL := hL0.2
    clear hS hI hL0
    obtain ⟨y0, y1, y2, y3, y4, y5⟩ := HA1.out.cells
    go_wp2_with fail
    clear y0 y1 y2 y3 y4 y5
    refine (toRec_any r _).mono ?_
    rintro e w2 ⟨rfl, hb2⟩
    have HA2 := hide (HA1.out.later hb2)
    clear HA1 hb2
    go_wp2_with fail
    refine (HSP.out _).mono ?_
    rintro e w3 ⟨rfl, hb3⟩
    have HA3 := hide (HA2.out.later hb3)
    clear HA2 HSP hb3
    obtain ⟨y0, y1, y2, y3, y4, y5⟩ := HA3.out.cells
    go_wp2_with fail
    clear y0 y1 y2 y3 y4 y5
    refine (toRec_any r _).mono ?_
    rintro e w4 ⟨rfl, hb4⟩
    have HA4 := hide (HA3.out.later hb4)
    clear HA3 hb4
    go_wp2_with fail
    refine (HIM.out _).mono ?_
    rintro e w5 ⟨rfl, hb5⟩
    have HB5 := hide (HA4.out.later hb5).bel
    clear HA4 HIM hb5
    go_wp2
    go_ret
    exact ⟨rfl, HB5.out⟩
  · rw [lessR_no (by omega)]
    go_wp2
    go_ret
    exact ⟨rfl, HA1.out.bel⟩

end Go.Proofs.Ytlppgbfpbkpocaa
