/-
  spec.DiskOk: is a disk right?
-/
import Derived.Test.YthnealhaleccpabDoorDiskOkGood
namespace Go.Proofs.YthnealhaleccpabDoor
open Go.RowKit
open Plain

set_option maxRecDepth 100000 in
set_option maxHeartbeats 4000000 in
theorem specOk_any (w : World) (a : Option Addr) (n cap : Nat) (fs : List FileV) (hr : FRow w 0 a n fs) (hn : n ≤ 1099511627776) (hz : szFs fs ≤ 1099511627776) (c u : Int) (d : Bool) :
    Calls Tryd.prog 28 #[.agg #[.slice a n cap, .int .i64 c, .int .i64 u, .bool d]] w fun e w' => e = .returned (.bool (diskOk fs c u)) ∧ Below w.heap.size w w' := by
  have hbx := box4 w (.slice a n cap) (.int .i64 c) (.int .i64 u) (.bool d) 37
  have HR := hide (hr.later hbx.1 (Nat.le_refl _))
  have HB := hide hbx.1
  have hlen := hr.len
  have hus := usedF_le_sz fs
  have hcell := cells4 hbx.2
  obtain ⟨W, hW⟩ : ∃ W, W = w.alloc (.cells #[.slice a n cap, .int .i64 c, .int .i64 u, .bool d] 37) := ⟨_, rfl⟩
  rw [← hW] at HR HB hcell
  have HWS : Hid (W.heap.size = w.heap.size + 1) := hide (by rw [hW]; simp)
  have hlater : ∀ w', Below W.heap.size W w' → w'.cell? ⟨w.heap.size, 0, none⟩ = some (.slice a n cap) ∧ w'.cell? ⟨w.heap.size, 1, none⟩ = some (.int .i64 c) ∧ w'.cell? ⟨w.heap.size, 2, none⟩ = some (.int .i64 u) ∧ w'.cell? ⟨w.heap.size, 3, none⟩ = some (.bool d) ∧ Hid (Below W.heap.size W w') := fun w' h =>
    ⟨by rw [h.cell (by have := HWS.out; show w.heap.size < _; omega)]; exact hcell.1, by rw [h.cell (by have := HWS.out; show w.heap.size < _; omega)]; exact hcell.2.1, by rw [h.cell (by have := HWS.out; show w.heap.size < _; omega)]; exact hcell.2.2.1, by rw [h.cell (by have := HWS.out; show w.heap.size < _; omega)]; exact hcell.2.2.2.1, hide h⟩
  have HL := hide hlater
  have HUS : Hid (∀ w', Hid (Below W.heap.size W w') → Calls Tryd.prog 45 #[.agg #[.slice a n cap, .int .i64 c, .int .i64 u, .bool d]] w' fun e w'' => e = .returned (.int .i64 (usedF fs)) ∧ Below W.heap.size W w'') := hide (fun w' h =>
    (specUsed_any w' a n cap fs (HR.out.later h.out (Nat.le_refl _)) hn (by omega) c u d).mono (fun e w'' ⟨h1, h2⟩ => ⟨h1, h.out.trans (h2.mono h.out.size)⟩))
  have S0 := hlater W.drew (Below.refl _ _).drew
  clear hbx hcell hlater
  by_cases q1 : n ≤ 130
  · have t1 : decide ((130 : Int) < (n : Int)) = false := by simp; omega
    by_cases q2 : inB 0 c 100000 = true
    · by_cases q3 : inB (-1) u 100000 = true
      · by_cases q4 : (usedF fs : Int) ≤ c
        · exact specOk_good w a n cap fs hr hn hz c u d q1 q2 q3 q4
        · have t4 : decide (c < (usedF fs : Int)) = true := by simp; omega
          have HV : Hid (diskOk fs c u = false) := hide (by simp [diskOk, headOk, q4])
          go_enter Tryd.func28, Tryd.ntmps28
          go_wp2_with fail
          rw [← hW]
          clear hW
          first
            | (go_region_held3 (fun w' => w'.cell? ⟨w.heap.size, 0, none⟩ = some (.slice a n cap) ∧ w'.cell? ⟨w.heap.size, 1, none⟩ = some (.int .i64 c) ∧ w'.cell? ⟨w.heap.size, 2, none⟩ = some (.int .i64 u) ∧ w'.cell? ⟨w.heap.size, 3, none⟩ = some (.bool d) ∧ Hid (Below W.heap.size W w')) (assumption) (first
              | (go_at_call 39; refine (in_anyB _ _ _ _).mono ?_; rintro e w4 ⟨rfl, rfl⟩)
              | (go_at_call 45; refine (HUS.out _ (by simp only [*])).mono ?_; rintro e w4 ⟨rfl, hb4⟩; have hS4 := HL.out w4 hb4)))
            | fail
          have HB4 := hide (HB.out.trans (hb4.mono HB.out.size))
          clear S0 HL HUS HR hb4 hS4
          go_wp2
          go_ret
          exact ⟨by rw [HV.out]; rfl, HB4.out⟩
      · have t3 : inB (-1) u 100000 = false := by simpa using q3
        have HV : Hid (diskOk fs c u = false) := hide (by simp [diskOk, headOk, t3])
        go_enter Tryd.func28, Tryd.ntmps28
        go_wp2_with fail
        rw [← hW]
        clear hW
        clear S0
        obtain ⟨z0, z1, z2, z3, -⟩ := HL.out W (Below.refl _ _)
        go_quiet ((go_at_call 39; exact Calls.quiet_of_same ((in_anyB _ _ _ _).mono (fun _ _ ⟨x, y⟩ => ⟨x, y.symm⟩))))
        clear HL HUS HR
        go_wp2
        go_ret
        exact ⟨by rw [HV.out]; rfl, ⟨HB.out.os, HB.out.tape, HB.out.output, HB.out.size, HB.out.block⟩⟩
    · have t2 : inB 0 c 100000 = false := by simpa using q2
      have HV : Hid (diskOk fs c u = false) := hide (by simp [diskOk, headOk, t2])
      go_enter Tryd.func28, Tryd.ntmps28
      go_wp2_with fail
      rw [← hW]
      clear hW
      clear S0
      obtain ⟨z0, z1, z2, z3, -⟩ := HL.out W (Below.refl _ _)
      go_quiet ((go_at_call 39; exact Calls.quiet_of_same ((in_anyB _ _ _ _).mono (fun _ _ ⟨x, y⟩ => ⟨x, y.symm⟩))))
      clear HL HUS HR
      go_wp2
      go_ret
      exact ⟨by rw [HV.out]; rfl, ⟨HB.out.os, HB.out.tape, HB.out.output, HB.out.size, HB.out.block⟩⟩
  · have t1 : decide ((130 : Int) < (n : Int)) = true := by simp; omega
    have HV : Hid (diskOk fs c u = false) := hide (by simp [diskOk, headOk, hlen, q1])
    go_enter Tryd.func28, Tryd.ntmps28
    go_wp2_with fail
    rw [← hW]
    clear hW
    clear S0
    obtain ⟨z0, z1, z2, z3, -⟩ := HL.out W (Below.refl _ _)
    go_quiet ((go_at_call 39; exact Calls.quiet_of_same ((in_anyB _ _ _ _).mono (fun _ _ ⟨x, y⟩ => ⟨x, y.symm⟩))))
    clear HL HUS HR
    go_wp2
    go_ret
    exact ⟨by rw [HV.out]; rfl, ⟨HB.out.os, HB.out.tape, HB.out.output, HB.out.size, HB.out.block⟩⟩

end Go.Proofs.YthnealhaleccpabDoor
