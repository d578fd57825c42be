/-
  spec.RecOk: is a record right? spec.RecOk: is a record right?
-/
import Derived.Test.YtimpokbcfjgdaaaGreatDoorHG00
namespace Go.Proofs.YtimpokbcfjgdaaaGreatDoor
open Go.RowKit
open Plain


set_option maxRecDepth 100000 in
set_option maxHeartbeats 4000000 in
theorem specRecOk_2 (b : Int) (key val : ByteArray) (c s : Int) (w : World) (h1 : 1 ≤ b) (h2 : b ≤ 1000000) :
    Calls Tryz.prog 107 #[.agg #[.int .i64 2, .int .i64 b, .string key, .string val, .int .i64 c, .int .i64 s]] w fun e w' => e = .returned (.bool (okN 2 b key.size val.size c s)) ∧ Below w.heap.size w w' := by
  have HB : Hid (∀ o : Obj, Below w.heap.size w (w.alloc o)) := hide (fun o => (Below.refl _ _).alloc (Nat.le_refl _) o)
  have hin : decide (0 ≤ b ∧ b ≤ 1000000) = true := decide_eq_true (by omega)
  have t1 : (b == 0) = false := by simp; omega
  by_cases q1 : 1 ≤ key.size ∧ key.size ≤ 8
  · have HK := hide (keyB_yes q1)
    by_cases q2 : val.size = 0
    · have t2 := nil_eq q2
      by_cases q3 : c = 0
      · have t3 : (c == 0) = true := by simpa using q3
        by_cases q4 : s = 0
        · have t4 : (s == 0) = true := by simpa using q4
          have HV : Hid (okN 2 b key.size val.size c s = true) := hide (okN_yes (by unfold RecOkP; omega))
          clear q1 q2 q3 q4 h1 h2
          go_enter Tryz.func107, Tryz.ntmps107
          go_wp2_with (first | (go_at_call 72; refine (in_any _ _ _ _).mono ?_; rw [hin]; rintro e w' ⟨rfl, rfl⟩) | (go_at_call 106; refine (specKey_any _ _).mono ?_; rw [HK.out]; rintro e w' ⟨rfl, rfl⟩))
          go_ret
          exact ⟨by rw [HV.out]; rfl, HB.out _⟩
        · have t4 : (s == 0) = false := by simpa using q4
          have HV : Hid (okN 2 b key.size val.size c s = false) := hide (okN_no (by unfold RecOkP; omega))
          clear q1 q2 q3 q4 h1 h2
          go_enter Tryz.func107, Tryz.ntmps107
          go_wp2_with (first | (go_at_call 72; refine (in_any _ _ _ _).mono ?_; rw [hin]; rintro e w' ⟨rfl, rfl⟩) | (go_at_call 106; refine (specKey_any _ _).mono ?_; rw [HK.out]; rintro e w' ⟨rfl, rfl⟩))
          go_ret
          exact ⟨by rw [HV.out]; rfl, HB.out _⟩
      · have t3 : (c == 0) = false := by simpa using q3
        have HV : Hid (okN 2 b key.size val.size c s = false) := hide (okN_no (by unfold RecOkP; omega))
        clear q1 q2 q3 h1 h2
        go_enter Tryz.func107, Tryz.ntmps107
        go_wp2_with (first | (go_at_call 72; refine (in_any _ _ _ _).mono ?_; rw [hin]; rintro e w' ⟨rfl, rfl⟩) | (go_at_call 106; refine (specKey_any _ _).mono ?_; rw [HK.out]; rintro e w' ⟨rfl, rfl⟩))
        go_ret
        exact ⟨by rw [HV.out]; rfl, HB.out _⟩
    · have t2 := nil_ne q2
      have HV : Hid (okN 2 b key.size val.size c s = false) := hide (okN_no (by unfold RecOkP; omega))
      clear q1 q2 h1 h2
      go_enter Tryz.func107, Tryz.ntmps107
      go_wp2_with (first | (go_at_call 72; refine (in_any _ _ _ _).mono ?_; rw [hin]; rintro e w' ⟨rfl, rfl⟩) | (go_at_call 106; refine (specKey_any _ _).mono ?_; rw [HK.out]; rintro e w' ⟨rfl, rfl⟩))
      go_ret
      exact ⟨by rw [HV.out]; rfl, HB.out _⟩
  · have HK := hide (keyB_no q1)
    have HV : Hid (okN 2 b key.size val.size c s = false) := hide (okN_no (by unfold RecOkP; omega))
    clear q1 h1 h2
    go_enter Tryz.func107, Tryz.ntmps107
    go_wp2_with (first | (go_at_call 72; refine (in_any _ _ _ _).mono ?_; rw [hin]; rintro e w' ⟨rfl, rfl⟩) | (go_at_call 106; refine (specKey_any _ _).mono ?_; rw [HK.out]; rintro e w' ⟨rfl, rfl⟩))
    go_ret
    exact ⟨by rw [HV.out]; rfl, HB.out _⟩

end Go.Proofs.YtimpokbcfjgdaaaGreatDoor
namespace Go.Proofs.YtimpokbcfjgdaaaGreatDoor
open Go.RowKit
open Plain


set_option maxRecDepth 100000 in
set_option maxHeartbeats 4000000 in
theorem specRecOk_3 (b : Int) (key val : ByteArray) (c s : Int) (w : World) (h1 : 1 ≤ b) (h2 : b ≤ 1000000) :
    Calls Tryz.prog 107 #[.agg #[.int .i64 3, .int .i64 b, .string key, .string val, .int .i64 c, .int .i64 s]] w fun e w' => e = .returned (.bool (okN 3 b key.size val.size c s)) ∧ Below w.heap.size w w' := by
  have HB : Hid (∀ o : Obj, Below w.heap.size w (w.alloc o)) := hide (fun o => (Below.refl _ _).alloc (Nat.le_refl _) o)
  have hin : decide (0 ≤ b ∧ b ≤ 1000000) = true := decide_eq_true (by omega)
  have t1 : (b == 0) = false := by simp; omega
  by_cases q1 : key.size = 0
  · have t2 := nil_eq q1
    by_cases q2 : val.size = 0
    · have t3 := nil_eq q2
      by_cases q3 : 0 ≤ c ∧ c ≤ 8
      · have hc : decide (0 ≤ c ∧ c ≤ 8) = true := decide_eq_true q3
        by_cases q4 : 0 ≤ s ∧ s ≤ 4294967295
        · have hs : decide (0 ≤ s ∧ s ≤ 4294967295) = true := decide_eq_true q4
          have HV : Hid (okN 3 b key.size val.size c s = true) := hide (okN_yes (by unfold RecOkP; omega))
          clear q1 q2 q3 q4 h1 h2
          go_enter Tryz.func107, Tryz.ntmps107
          go_wp2_with (go_at_call 72; refine (in_any _ _ _ _).mono ?_; (first | rw [hin] | rw [hc] | rw [hs]); rintro e w' ⟨rfl, rfl⟩)
          go_ret
          exact ⟨by rw [HV.out]; rfl, HB.out _⟩
        · have hs : decide (0 ≤ s ∧ s ≤ 4294967295) = false := decide_eq_false q4
          have HV : Hid (okN 3 b key.size val.size c s = false) := hide (okN_no (by unfold RecOkP; omega))
          clear q1 q2 q3 q4 h1 h2
          go_enter Tryz.func107, Tryz.ntmps107
          go_wp2_with (go_at_call 72; refine (in_any _ _ _ _).mono ?_; (first | rw [hin] | rw [hc] | rw [hs]); rintro e w' ⟨rfl, rfl⟩)
          go_ret
          exact ⟨by rw [HV.out]; rfl, HB.out _⟩
      · have hc : decide (0 ≤ c ∧ c ≤ 8) = false := decide_eq_false q3
        have HV : Hid (okN 3 b key.size val.size c s = false) := hide (okN_no (by unfold RecOkP; omega))
        clear q1 q2 q3 h1 h2
        go_enter Tryz.func107, Tryz.ntmps107
        go_wp2_with (go_at_call 72; refine (in_any _ _ _ _).mono ?_; (first | rw [hin] | rw [hc] | rw [hs]); rintro e w' ⟨rfl, rfl⟩)
        go_ret
        exact ⟨by rw [HV.out]; rfl, HB.out _⟩
    · have t3 := nil_ne q2
      have HV : Hid (okN 3 b key.size val.size c s = false) := hide (okN_no (by unfold RecOkP; omega))
      clear q1 q2 h1 h2
      go_enter Tryz.func107, Tryz.ntmps107
      go_wp2_with (go_at_call 72; refine (in_any _ _ _ _).mono ?_; (first | rw [hin] | rw [hc] | rw [hs]); rintro e w' ⟨rfl, rfl⟩)
      go_ret
      exact ⟨by rw [HV.out]; rfl, HB.out _⟩
  · have t2 := nil_ne q1
    have HV : Hid (okN 3 b key.size val.size c s = false) := hide (okN_no (by unfold RecOkP; omega))
    clear q1 h1 h2
    go_enter Tryz.func107, Tryz.ntmps107
    go_wp2_with (go_at_call 72; refine (in_any _ _ _ _).mono ?_; (first | rw [hin] | rw [hc] | rw [hs]); rintro e w' ⟨rfl, rfl⟩)
    go_ret
    exact ⟨by rw [HV.out]; rfl, HB.out _⟩

end Go.Proofs.YtimpokbcfjgdaaaGreatDoor
