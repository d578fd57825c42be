/-
  WithFuel, spec's and impl's.
-/
import Derived.Test.YthfpcjamlbkgfaaCMid
import Derived.Test.YthfpcjamlbkgfaaDiskOkImpl
namespace Go.Proofs.Ythfpcjamlbkgfaa
open Go.RowKit
open Plain

def wfB (fs : List FileV) (c u m : Int) : Bool := diskOk fs c u && inB (-1) m 100000
def wfU (fs : List FileV) (c u m : Int) : Int := if wfB fs c u m = true then m else u
def wfD (fs : List FileV) (c u : Int) (d : Bool) (m : Int) : Bool := if wfB fs c u m = true then false else d

set_option maxRecDepth 100000 in
set_option maxHeartbeats 1000000 in
theorem implWf_any (w : World) (a : Option Addr) (n cap : Nat) (fs : List FileV) (ha : a = none ∨ ∃ g, a = some ⟨g, 0, none⟩) (hr : FRow w 0 a n fs) (hn : n ≤ 1048576) (hz : szFs fs ≤ 1048576) (c u : Int) (d : Bool) (m : Int) :
    Calls Try.prog 28 #[.agg #[.slice a n cap, .int .i64 c, .int .i64 u, .bool d], .int .i64 m] w fun e w' => (∃ a' cap', e = .returned (.agg #[.slice a' n cap', .int .i64 c, .int .i64 (wfU fs c u m), .bool (wfD fs c u d m)]) ∧ FOwn w' w.heap.size (.slice a' n cap') fs) ∧ Below w.heap.size w w' := by
  obtain ⟨W, hW⟩ : ∃ W, W = (w.alloc (.cells #[.slice a n cap, .int .i64 c, .int .i64 u, .bool d] 26)).alloc (.cells #[.slice none 0 0, .int .i64 0, .int .i64 0, .bool false] 26) := ⟨_, rfl⟩
  have hA := alloc2 w (.cells #[.slice a n cap, .int .i64 c, .int .i64 u, .bool d] 26) (.cells #[.slice none 0 0, .int .i64 0, .int .i64 0, .bool false] 26)
  rw [← hW] at hA
  have HR := hide (hr.later hA.2.1 (Nat.le_refl _))
  have HR0 := hide hr
  obtain ⟨y0, y1, y2, y3, -⟩ := cells4 hA.2.2.1
  rw [hW] at y0 y1 y2 y3
  clear hA hr
  go_enter Try.func28, Try.ntmps28
  go_wp2_with fail
  rw [← hW]
  clear y0 y1 y2 y3
  refine (implCopy_any W a n cap fs ha HR.out hn c u d).mono ?_
  rintro e w2 ⟨⟨a', cap', rfl, ho2⟩, hb2⟩
  obtain ⟨X, hX⟩ : ∃ X, X = w2.alloc (.cells #[.slice a' n cap', .int .i64 c, .int .i64 u, .bool d] 26) := ⟨_, rfl⟩
  have HM : Hid (CMid w X w2.heap.size a n cap c u d fs a' cap' u d fs) := hide (by subst hW; subst hX; exact CMid.start HR0.out hb2 ho2)
  have y := cells4 HM.out.box
  rw [hX] at y
  obtain ⟨y0, y1, y2, y3, -⟩ := y
  clear hW hb2 ho2 HR
  go_wp2_with fail
  clear y0 y1 y2 y3
  rw [← hX]
  clear hX
  obtain ⟨x, hx⟩ : ∃ x, w2.heap.size = x := ⟨_, rfl⟩
  rw [hx] at HM ⊢
  clear hx
  refine (implOk_any X a n cap fs HM.out.row (by omega) (by omega) c u d).mono ?_
  rintro e w3 ⟨rfl, hb3⟩
  have HM3 := hide (HM.out.later hb3)
  clear hb3 HM
  obtain ⟨b0, b1, b2, b3, k0, k1, k2, k3⟩ := cells4 HM3.out.res
  obtain ⟨c0, c1, c2, c3, l0, l1, l2, l3⟩ := cells4 HM3.out.aft
  have hlo := HM3.out.lo
  by_cases q : diskOk fs c u = true
  · by_cases q2 : inB (-1) m 100000 = true
    · have HU : Hid (wfU fs c u m = m) := hide (by unfold wfU wfB; rw [q, q2]; rfl)
      have HD : Hid (wfD fs c u d m = false) := hide (by unfold wfD wfB; rw [q, q2]; rfl)
      have h12 : -1 ≤ m ∧ m ≤ 100000 := by unfold inB at q2; simpa using q2
      obtain ⟨h1, h2⟩ := h12
      rw [q]
      clear q2
      go_wp2
      have HF := hide ((HM3.out.setFuel m).setDown false)
      refine bodyPost_ret (v := .agg #[.slice a' n cap', .int .i64 c, .int .i64 m, .bool false]) (by simp [results, Try.results28, go_sem, *]) rfl ⟨⟨a', cap', by rw [HU.out, HD.out], ?_⟩, ?_⟩
      · exact (HF.out.fin _ _ _ _).1
      · exact (HF.out.fin _ _ _ _).2
    · have q2' : inB (-1) m 100000 = false := by simpa using q2
      have HU : Hid (wfU fs c u m = u) := hide (by unfold wfU wfB; rw [q, q2']; rfl)
      have HD : Hid (wfD fs c u d m = d) := hide (by unfold wfD wfB; rw [q, q2']; rfl)
      have h12 : m < -1 ∨ 100000 < m := by
        unfold inB at q2'
        have := of_decide_eq_false q2'
        omega
      rw [q]
      clear q2 q2'
      rcases h12 with h1 | h1
      · go_wp2
        refine bodyPost_ret (v := .agg #[.slice a' n cap', .int .i64 c, .int .i64 u, .bool d]) (by simp [results, Try.results28, go_sem, *]) rfl ⟨⟨a', cap', by rw [HU.out, HD.out], ?_⟩, ?_⟩
        · exact (HM3.out.fin _ _ _ _).1
        · exact (HM3.out.fin _ _ _ _).2
      · have h2 : ¬ m < -1 := by omega
        go_wp2
        refine bodyPost_ret (v := .agg #[.slice a' n cap', .int .i64 c, .int .i64 u, .bool d]) (by simp [results, Try.results28, go_sem, *]) rfl ⟨⟨a', cap', by rw [HU.out, HD.out], ?_⟩, ?_⟩
        · exact (HM3.out.fin _ _ _ _).1
        · exact (HM3.out.fin _ _ _ _).2
  · have q' : diskOk fs c u = false := by simpa using q
    have HU : Hid (wfU fs c u m = u) := hide (by unfold wfU wfB; rw [q']; rfl)
    have HD : Hid (wfD fs c u d m = d) := hide (by unfold wfD wfB; rw [q']; rfl)
    rw [q']
    go_wp2
    refine bodyPost_ret (v := .agg #[.slice a' n cap', .int .i64 c, .int .i64 u, .bool d]) (by simp [results, Try.results28, go_sem, *]) rfl ⟨⟨a', cap', by rw [HU.out, HD.out], ?_⟩, ?_⟩
    · exact (HM3.out.fin _ _ _ _).1
    · exact (HM3.out.fin _ _ _ _).2

set_option maxRecDepth 100000 in
set_option maxHeartbeats 1000000 in
theorem specWf_any (w : World) (a : Option Addr) (n cap : Nat) (fs : List FileV) (hr : FRow w 0 a n fs) (hc0 : a = none → cap = 0) (hn : n ≤ 1048576) (hz : szFs fs ≤ 1048576) (c u : Int) (d : Bool) (m : Int) :
    Calls Try.prog 27 #[.agg #[.slice a n cap, .int .i64 c, .int .i64 u, .bool d], .int .i64 m] w fun e w' => (∃ a' cap', e = .returned (.agg #[.slice a' n cap', .int .i64 c, .int .i64 (wfU fs c u m), .bool (wfD fs c u d m)]) ∧ FOwn w' w.heap.size (.slice a' n cap') fs) ∧ Below w.heap.size w w' := by
  obtain ⟨W, hW⟩ : ∃ W, W = (w.alloc (.cells #[.slice a n cap, .int .i64 c, .int .i64 u, .bool d] 26)).alloc (.cells #[.slice none 0 0, .int .i64 0, .int .i64 0, .bool false] 26) := ⟨_, rfl⟩
  have hA := alloc2 w (.cells #[.slice a n cap, .int .i64 c, .int .i64 u, .bool d] 26) (.cells #[.slice none 0 0, .int .i64 0, .int .i64 0, .bool false] 26)
  rw [← hW] at hA
  have HR := hide (hr.later hA.2.1 (Nat.le_refl _))
  have HR0 := hide hr
  obtain ⟨y0, y1, y2, y3, -⟩ := cells4 hA.2.2.1
  rw [hW] at y0 y1 y2 y3
  clear hA hr
  go_enter Try.func27, Try.ntmps27
  go_wp2_with fail
  rw [← hW]
  clear y0 y1 y2 y3
  refine (specCopy_any W a n cap fs HR.out hc0 hn c u d).mono ?_
  rintro e w2 ⟨⟨a', cap', rfl, ho2⟩, hb2⟩
  obtain ⟨X, hX⟩ : ∃ X, X = w2.alloc (.cells #[.slice a' n cap', .int .i64 c, .int .i64 u, .bool d] 26) := ⟨_, rfl⟩
  have HM : Hid (CMid w X w2.heap.size a n cap c u d fs a' cap' u d fs) := hide (by subst hW; subst hX; exact CMid.start HR0.out hb2 ho2)
  have y := cells4 HM.out.box
  rw [hX] at y
  obtain ⟨y0, y1, y2, y3, -⟩ := y
  clear hW hb2 ho2 HR
  go_wp2_with fail
  clear y0 y1 y2 y3
  rw [← hX]
  clear hX
  obtain ⟨x, hx⟩ : ∃ x, w2.heap.size = x := ⟨_, rfl⟩
  rw [hx] at HM ⊢
  clear hx
  refine (specOk_any X a n cap fs HM.out.row (by omega) (by omega) c u d).mono ?_
  rintro e w3 ⟨rfl, hb3⟩
  have HM3 := hide (HM.out.later hb3)
  clear hb3 HM
  obtain ⟨b0, b1, b2, b3, k0, k1, k2, k3⟩ := cells4 HM3.out.res
  obtain ⟨c0, c1, c2, c3, l0, l1, l2, l3⟩ := cells4 HM3.out.aft
  have hlo := HM3.out.lo
  by_cases q : diskOk fs c u = true
  · by_cases q2 : inB (-1) m 100000 = true
    · have HU : Hid (wfU fs c u m = m) := hide (by unfold wfU wfB; rw [q, q2]; rfl)
      have HD : Hid (wfD fs c u d m = false) := hide (by unfold wfD wfB; rw [q, q2]; rfl)
      have h12 : -1 ≤ m ∧ m ≤ 100000 := by unfold inB at q2; simpa using q2
      obtain ⟨h1, h2⟩ := h12
      rw [q]
      go_wp2_with (go_at_call 37; refine (in_anyB _ _ _ _).mono ?_; rintro e w4 ⟨rfl, rfl⟩)
      have HF := hide ((HM3.out.setFuel m).setDown false)
      refine bodyPost_ret (v := .agg #[.slice a' n cap', .int .i64 c, .int .i64 m, .bool false]) (by simp [results, Try.results27, go_sem, *]) rfl ⟨⟨a', cap', by rw [HU.out, HD.out], ?_⟩, ?_⟩
      · exact (HF.out.fin _ _ _ _).1
      · exact (HF.out.fin _ _ _ _).2
    · have q2' : inB (-1) m 100000 = false := by simpa using q2
      have HU : Hid (wfU fs c u m = u) := hide (by unfold wfU wfB; rw [q, q2']; rfl)
      have HD : Hid (wfD fs c u d m = d) := hide (by unfold wfD wfB; rw [q, q2']; rfl)
      rw [q]
      go_wp2_with (go_at_call 37; refine (in_anyB _ _ _ _).mono ?_; rintro e w4 ⟨rfl, rfl⟩)
      refine bodyPost_ret (v := .agg #[.slice a' n cap', .int .i64 c, .int .i64 u, .bool d]) (by simp [results, Try.results27, go_sem, *]) rfl ⟨⟨a', cap', by rw [HU.out, HD.out], ?_⟩, ?_⟩
      · exact (HM3.out.fin _ _ _ _).1
      · exact (HM3.out.fin _ _ _ _).2
  · have q' : diskOk fs c u = false := by simpa using q
    have HU : Hid (wfU fs c u m = u) := hide (by unfold wfU wfB; rw [q']; rfl)
    have HD : Hid (wfD fs c u d m = d) := hide (by unfold wfD wfB; rw [q']; rfl)
    rw [q']
    go_wp2
    refine bodyPost_ret (v := .agg #[.slice a' n cap', .int .i64 c, .int .i64 u, .bool d]) (by simp [results, Try.results27, go_sem, *]) rfl ⟨⟨a', cap', by rw [HU.out, HD.out], ?_⟩, ?_⟩
    · exact (HM3.out.fin _ _ _ _).1
    · exact (HM3.out.fin _ _ _ _).2

end Go.Proofs.Ythfpcjamlbkgfaa
