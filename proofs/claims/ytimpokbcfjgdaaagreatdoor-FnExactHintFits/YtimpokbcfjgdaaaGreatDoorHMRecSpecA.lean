/-
  spec.RecOk: is a record right?
-/
import Derived.Test.YtimpokbcfjgdaaaGreatDoorHG00
namespace Go.Proofs.YtimpokbcfjgdaaaGreatDoor
open Go.RowKit
open Plain

set_option maxRecDepth 100000 in
set_option maxHeartbeats 4000000 in
theorem specRecOk_batch (k b : Int) (key val : ByteArray) (c s : Int) (w : World) (h : ¬ (1 ≤ b ∨ (b = 0 ∧ k = 5)) ∨ 1000000 < b) :
    Calls Tryz.prog 107 #[.agg #[.int .i64 k, .int .i64 b, .string key, .string val, .int .i64 c, .int .i64 s]] w fun e w' => e = .returned (.bool false) ∧ Below w.heap.size w w' := by
  have HB : Hid (∀ o : Obj, Below w.heap.size w (w.alloc o)) := hide (fun o => (Below.refl _ _).alloc (Nat.le_refl _) o)
  by_cases hb : 0 ≤ b ∧ b ≤ 1000000
  · have hin : decide (0 ≤ b ∧ b ≤ 1000000) = true := decide_eq_true hb
    have t1 : (b == 0) = true := by simp; omega
    have t2 : (k != 5) = true := by simp; omega
    clear h hb
    go_enter Tryz.func107, Tryz.ntmps107
    go_wp2_with (go_at_call 72; refine (in_any _ _ _ _).mono ?_; rw [hin]; rintro e w' ⟨rfl, rfl⟩)
    go_ret
    exact ⟨rfl, HB.out _⟩
  · have hin : decide (0 ≤ b ∧ b ≤ 1000000) = false := decide_eq_false hb
    clear h hb
    go_enter Tryz.func107, Tryz.ntmps107
    go_wp2_with (go_at_call 72; refine (in_any _ _ _ _).mono ?_; rw [hin]; rintro e w' ⟨rfl, rfl⟩)
    go_ret
    exact ⟨rfl, HB.out _⟩


set_option maxRecDepth 100000 in
set_option maxHeartbeats 4000000 in
theorem specRecOk_1 (b : Int) (key val : ByteArray) (c s : Int) (w : World) (h1 : 1 ≤ b) (h2 : b ≤ 1000000) (hv : val.size ≤ maxLen) :
    Calls Tryz.prog 107 #[.agg #[.int .i64 1, .int .i64 b, .string key, .string val, .int .i64 c, .int .i64 s]] w fun e w' => e = .returned (.bool (okN 1 b key.size val.size c s)) ∧ Below w.heap.size w w' := by
  unfold maxLen at hv
  have HB : Hid (∀ o : Obj, Below w.heap.size w (w.alloc o)) := hide (fun o => (Below.refl _ _).alloc (Nat.le_refl _) o)
  have hin : decide (0 ≤ b ∧ b ≤ 1000000) = true := decide_eq_true (by omega)
  have t1 : (b == 0) = false := by simp; omega
  by_cases q1 : 1 ≤ key.size ∧ key.size ≤ 8
  · have HK := hide (keyB_yes q1)
    by_cases q2 : val.size ≤ 24
    · have t2 : decide ((val.size : Int) ≤ 24) = true := by simp; omega
      by_cases q3 : c = 0
      · have t3 : (c == 0) = true := by simpa using q3
        by_cases q4 : s = 0
        · have t4 : (s == 0) = true := by simpa using q4
          have HV : Hid (okN 1 b key.size val.size c s = true) := hide (okN_yes (by unfold RecOkP; omega))
          clear q1 q2 q3 q4 h1 h2
          go_enter Tryz.func107, Tryz.ntmps107
          go_wp2_with (first | (go_at_call 72; refine (in_any _ _ _ _).mono ?_; rw [hin]; rintro e w' ⟨rfl, rfl⟩) | (go_at_call 106; refine (specKey_any _ _).mono ?_; rw [HK.out]; rintro e w' ⟨rfl, rfl⟩))
          go_ret
          exact ⟨by rw [HV.out]; rfl, HB.out _⟩
        · have t4 : (s == 0) = false := by simpa using q4
          have HV : Hid (okN 1 b key.size val.size c s = false) := hide (okN_no (by unfold RecOkP; omega))
          clear q1 q2 q3 q4 h1 h2
          go_enter Tryz.func107, Tryz.ntmps107
          go_wp2_with (first | (go_at_call 72; refine (in_any _ _ _ _).mono ?_; rw [hin]; rintro e w' ⟨rfl, rfl⟩) | (go_at_call 106; refine (specKey_any _ _).mono ?_; rw [HK.out]; rintro e w' ⟨rfl, rfl⟩))
          go_ret
          exact ⟨by rw [HV.out]; rfl, HB.out _⟩
      · have t3 : (c == 0) = false := by simpa using q3
        have HV : Hid (okN 1 b key.size val.size c s = false) := hide (okN_no (by unfold RecOkP; omega))
        clear q1 q2 q3 h1 h2
        go_enter Tryz.func107, Tryz.ntmps107
        go_wp2_with (first | (go_at_call 72; refine (in_any _ _ _ _).mono ?_; rw [hin]; rintro e w' ⟨rfl, rfl⟩) | (go_at_call 106; refine (specKey_any _ _).mono ?_; rw [HK.out]; rintro e w' ⟨rfl, rfl⟩))
        go_ret
        exact ⟨by rw [HV.out]; rfl, HB.out _⟩
    · have t2 : decide ((val.size : Int) ≤ 24) = false := by simp; omega
      have HV : Hid (okN 1 b key.size val.size c s = false) := hide (okN_no (by unfold RecOkP; omega))
      clear q1 q2 h1 h2
      go_enter Tryz.func107, Tryz.ntmps107
      go_wp2_with (first | (go_at_call 72; refine (in_any _ _ _ _).mono ?_; rw [hin]; rintro e w' ⟨rfl, rfl⟩) | (go_at_call 106; refine (specKey_any _ _).mono ?_; rw [HK.out]; rintro e w' ⟨rfl, rfl⟩))
      go_ret
      exact ⟨by rw [HV.out]; rfl, HB.out _⟩
  · have HK := hide (keyB_no q1)
    have HV : Hid (okN 1 b key.size val.size c s = false) := hide (okN_no (by unfold RecOkP; omega))
    clear q1 h1 h2
    go_enter Tryz.func107, Tryz.ntmps107
    go_wp2_with (first | (go_at_call 72; refine (in_any _ _ _ _).mono ?_; rw [hin]; rintro e w' ⟨rfl, rfl⟩) | (go_at_call 106; refine (specKey_any _ _).mono ?_; rw [HK.out]; rintro e w' ⟨rfl, rfl⟩))
    go_ret
    exact ⟨by rw [HV.out]; rfl, HB.out _⟩

set_option maxRecDepth 100000 in
set_option maxHeartbeats 4000000 in
theorem specRecOk_4 (b : Int) (key val : ByteArray) (c s : Int) (w : World) (h1 : 1 ≤ b) (h2 : b ≤ 1000000) (hv : val.size ≤ maxLen) :
    Calls Tryz.prog 107 #[.agg #[.int .i64 4, .int .i64 b, .string key, .string val, .int .i64 c, .int .i64 s]] w fun e w' => e = .returned (.bool (okN 4 b key.size val.size c s)) ∧ Below w.heap.size w w' := by
  unfold maxLen at hv
  have HB : Hid (∀ o : Obj, Below w.heap.size w (w.alloc o)) := hide (fun o => (Below.refl _ _).alloc (Nat.le_refl _) o)
  have hin : decide (0 ≤ b ∧ b ≤ 1000000) = true := decide_eq_true (by omega)
  have t1 : (b == 0) = false := by simp; omega
  by_cases q1 : 1 ≤ key.size ∧ key.size ≤ 8
  · have HK := hide (keyB_yes q1)
    by_cases q2 : val.size ≤ 24
    · have t2 : decide ((val.size : Int) ≤ 24) = true := by simp; omega
      by_cases q3 : c = 0
      · have t3 : (c == 0) = true := by simpa using q3
        by_cases q4 : s = 0
        · have t4 : (s == 0) = true := by simpa using q4
          have HV : Hid (okN 4 b key.size val.size c s = true) := hide (okN_yes (by unfold RecOkP; omega))
          clear q1 q2 q3 q4 h1 h2
          go_enter Tryz.func107, Tryz.ntmps107
          go_wp2_with (first | (go_at_call 72; refine (in_any _ _ _ _).mono ?_; rw [hin]; rintro e w' ⟨rfl, rfl⟩) | (go_at_call 106; refine (specKey_any _ _).mono ?_; rw [HK.out]; rintro e w' ⟨rfl, rfl⟩))
          go_ret
          exact ⟨by rw [HV.out]; rfl, HB.out _⟩
        · have t4 : (s == 0) = false := by simpa using q4
          have HV : Hid (okN 4 b key.size val.size c s = false) := hide (okN_no (by unfold RecOkP; omega))
          clear q1 q2 q3 q4 h1 h2
          go_enter Tryz.func107, Tryz.ntmps107
          go_wp2_with (first | (go_at_call 72; refine (in_any _ _ _ _).mono ?_; rw [hin]; rintro e w' ⟨rfl, rfl⟩) | (go_at_call 106; refine (specKey_any _ _).mono ?_; rw [HK.out]; rintro e w' ⟨rfl, rfl⟩))
          go_ret
          exact ⟨by rw [HV.out]; rfl, HB.out _⟩
      · have t3 : (c == 0) = false := by simpa using q3
        have HV : Hid (okN 4 b key.size val.size c s = false) := hide (okN_no (by unfold RecOkP; omega))
        clear q1 q2 q3 h1 h2
        go_enter Tryz.func107, Tryz.ntmps107
        go_wp2_with (first | (go_at_call 72; refine (in_any _ _ _ _).mono ?_; rw [hin]; rintro e w' ⟨rfl, rfl⟩) | (go_at_call 106; refine (specKey_any _ _).mono ?_; rw [HK.out]; rintro e w' ⟨rfl, rfl⟩))
        go_ret
        exact ⟨by rw [HV.out]; rfl, HB.out _⟩
    · have t2 : decide ((val.size : Int) ≤ 24) = false := by simp; omega
      have HV : Hid (okN 4 b key.size val.size c s = false) := hide (okN_no (by unfold RecOkP; omega))
      clear q1 q2 h1 h2
      go_enter Tryz.func107, Tryz.ntmps107
      go_wp2_with (first | (go_at_call 72; refine (in_any _ _ _ _).mono ?_; rw [hin]; rintro e w' ⟨rfl, rfl⟩) | (go_at_call 106; refine (specKey_any _ _).mono ?_; rw [HK.out]; rintro e w' ⟨rfl, rfl⟩))
      go_ret
      exact ⟨by rw [HV.out]; rfl, HB.out _⟩
  · have HK := hide (keyB_no q1)
    have HV : Hid (okN 4 b key.size val.size c s = false) := hide (okN_no (by unfold RecOkP; omega))
    clear q1 h1 h2
    go_enter Tryz.func107, Tryz.ntmps107
    go_wp2_with (first | (go_at_call 72; refine (in_any _ _ _ _).mono ?_; rw [hin]; rintro e w' ⟨rfl, rfl⟩) | (go_at_call 106; refine (specKey_any _ _).mono ?_; rw [HK.out]; rintro e w' ⟨rfl, rfl⟩))
    go_ret
    exact ⟨by rw [HV.out]; rfl, HB.out _⟩

end Go.Proofs.YtimpokbcfjgdaaaGreatDoor
