/-
  spec.RecOk: is a record right?
-/
import Derived.Test.YtimpokbcfjgdaaaGreatDoorHG00
namespace Go.Proofs.YtimpokbcfjgdaaaGreatDoor
open Go.RowKit
open Plain


set_option maxRecDepth 100000 in
set_option maxHeartbeats 4000000 in
theorem specRecOk_5 (b : Int) (key val : ByteArray) (c s : Int) (w : World) (h1 : 0 ≤ b) (h2 : b ≤ 1000000) :
    Calls Tryz.prog 107 #[.agg #[.int .i64 5, .int .i64 b, .string key, .string val, .int .i64 c, .int .i64 s]] w fun e w' => e = .returned (.bool (okN 5 b key.size val.size c s)) ∧ Below w.heap.size w w' := by
  have HB : Hid (∀ o : Obj, Below w.heap.size w (w.alloc o)) := hide (fun o => (Below.refl _ _).alloc (Nat.le_refl _) o)
  have hin : decide (0 ≤ b ∧ b ≤ 1000000) = true := decide_eq_true (by omega)
  by_cases q1 : key.size = 0
  · have t2 := nil_eq q1
    by_cases q2 : val.size = 0
    · have t3 := nil_eq q2
      by_cases q3 : 0 ≤ c ∧ c ≤ 20
      · have hc : decide (0 ≤ c ∧ c ≤ 20) = true := decide_eq_true q3
        by_cases q4 : 0 ≤ s ∧ s ≤ 4294967295
        · have hs : decide (0 ≤ s ∧ s ≤ 4294967295) = true := decide_eq_true q4
          have HV : Hid (okN 5 b key.size val.size c s = true) := hide (okN_yes (by unfold RecOkP; omega))
          clear q1 q2 q3 q4 h1 h2
          by_cases qb : b = 0
          · have t1 : (b == 0) = true := by simpa using qb
            clear qb
            go_enter Tryz.func107, Tryz.ntmps107
            go_wp2_with (go_at_call 72; refine (in_any _ _ _ _).mono ?_; (first | rw [hin] | rw [hc] | rw [hs]); rintro e w' ⟨rfl, rfl⟩)
            go_ret
            exact ⟨by rw [HV.out]; rfl, HB.out _⟩
          · have t1 : (b == 0) = false := by simpa using qb
            clear qb
            go_enter Tryz.func107, Tryz.ntmps107
            go_wp2_with (go_at_call 72; refine (in_any _ _ _ _).mono ?_; (first | rw [hin] | rw [hc] | rw [hs]); rintro e w' ⟨rfl, rfl⟩)
            go_ret
            exact ⟨by rw [HV.out]; rfl, HB.out _⟩
        · have hs : decide (0 ≤ s ∧ s ≤ 4294967295) = false := decide_eq_false q4
          have HV : Hid (okN 5 b key.size val.size c s = false) := hide (okN_no (by unfold RecOkP; omega))
          clear q1 q2 q3 q4 h1 h2
          by_cases qb : b = 0
          · have t1 : (b == 0) = true := by simpa using qb
            clear qb
            go_enter Tryz.func107, Tryz.ntmps107
            go_wp2_with (go_at_call 72; refine (in_any _ _ _ _).mono ?_; (first | rw [hin] | rw [hc] | rw [hs]); rintro e w' ⟨rfl, rfl⟩)
            go_ret
            exact ⟨by rw [HV.out]; rfl, HB.out _⟩
          · have t1 : (b == 0) = false := by simpa using qb
            clear qb
            go_enter Tryz.func107, Tryz.ntmps107
            go_wp2_with (go_at_call 72; refine (in_any _ _ _ _).mono ?_; (first | rw [hin] | rw [hc] | rw [hs]); rintro e w' ⟨rfl, rfl⟩)
            go_ret
            exact ⟨by rw [HV.out]; rfl, HB.out _⟩
      · have hc : decide (0 ≤ c ∧ c ≤ 20) = false := decide_eq_false q3
        have HV : Hid (okN 5 b key.size val.size c s = false) := hide (okN_no (by unfold RecOkP; omega))
        clear q1 q2 q3 h1 h2
        by_cases qb : b = 0
        · have t1 : (b == 0) = true := by simpa using qb
          clear qb
          go_enter Tryz.func107, Tryz.ntmps107
          go_wp2_with (go_at_call 72; refine (in_any _ _ _ _).mono ?_; (first | rw [hin] | rw [hc] | rw [hs]); rintro e w' ⟨rfl, rfl⟩)
          go_ret
          exact ⟨by rw [HV.out]; rfl, HB.out _⟩
        · have t1 : (b == 0) = false := by simpa using qb
          clear qb
          go_enter Tryz.func107, Tryz.ntmps107
          go_wp2_with (go_at_call 72; refine (in_any _ _ _ _).mono ?_; (first | rw [hin] | rw [hc] | rw [hs]); rintro e w' ⟨rfl, rfl⟩)
          go_ret
          exact ⟨by rw [HV.out]; rfl, HB.out _⟩
    · have t3 := nil_ne q2
      have HV : Hid (okN 5 b key.size val.size c s = false) := hide (okN_no (by unfold RecOkP; omega))
      clear q1 q2 h1 h2
      by_cases qb : b = 0
      · have t1 : (b == 0) = true := by simpa using qb
        clear qb
        go_enter Tryz.func107, Tryz.ntmps107
        go_wp2_with (go_at_call 72; refine (in_any _ _ _ _).mono ?_; (first | rw [hin] | rw [hc] | rw [hs]); rintro e w' ⟨rfl, rfl⟩)
        go_ret
        exact ⟨by rw [HV.out]; rfl, HB.out _⟩
      · have t1 : (b == 0) = false := by simpa using qb
        clear qb
        go_enter Tryz.func107, Tryz.ntmps107
        go_wp2_with (go_at_call 72; refine (in_any _ _ _ _).mono ?_; (first | rw [hin] | rw [hc] | rw [hs]); rintro e w' ⟨rfl, rfl⟩)
        go_ret
        exact ⟨by rw [HV.out]; rfl, HB.out _⟩
  · have t2 := nil_ne q1
    have HV : Hid (okN 5 b key.size val.size c s = false) := hide (okN_no (by unfold RecOkP; omega))
    clear q1 h1 h2
    by_cases qb : b = 0
    · have t1 : (b == 0) = true := by simpa using qb
      clear qb
      go_enter Tryz.func107, Tryz.ntmps107
      go_wp2_with (go_at_call 72; refine (in_any _ _ _ _).mono ?_; (first | rw [hin] | rw [hc] | rw [hs]); rintro e w' ⟨rfl, rfl⟩)
      go_ret
      exact ⟨by rw [HV.out]; rfl, HB.out _⟩
    · have t1 : (b == 0) = false := by simpa using qb
      clear qb
      go_enter Tryz.func107, Tryz.ntmps107
      go_wp2_with (go_at_call 72; refine (in_any _ _ _ _).mono ?_; (first | rw [hin] | rw [hc] | rw [hs]); rintro e w' ⟨rfl, rfl⟩)
      go_ret
      exact ⟨by rw [HV.out]; rfl, HB.out _⟩

end Go.Proofs.YtimpokbcfjgdaaaGreatDoor
