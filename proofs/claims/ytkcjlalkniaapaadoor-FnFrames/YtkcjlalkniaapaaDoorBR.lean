/-
  spec.RecOk: is a record right? spec.RecOk: is a record right? spec.RecOk: is a record right? spec.RecOk: is a record right? spec.RecOk: is a record right?
-/
import Derived.Test.YtkcjlalkniaapaaDoorBA
namespace Go.Proofs.YtkcjlalkniaapaaDoor
open Go.RowKit
open Plain

set_option maxRecDepth 100000 in
set_option maxHeartbeats 4000000 in
theorem specRecOk_batch (k b : Int) (key val : ByteArray) (c s : Int) (w : World) (h : ¬ (1 ≤ b ∨ (b = 0 ∧ k = 5)) ∨ 1000000 < b) :
    Calls Tryd.prog 71 #[.agg #[.int .i64 k, .int .i64 b, .string key, .string val, .int .i64 c, .int .i64 s]] w fun e w' => e = .returned (.bool false) ∧ Below w.heap.size w w' := by
  have HB : Hid (∀ o : Obj, Below w.heap.size w (w.alloc o)) := hide (fun o => (Below.refl _ _).alloc (Nat.le_refl _) o)
  by_cases hb : 0 ≤ b ∧ b ≤ 1000000
  · have hin : decide (0 ≤ b ∧ b ≤ 1000000) = true := decide_eq_true hb
    have t1 : (b == 0) = true := by simp; omega
    have t2 : (k != 5) = true := by simp; omega
    clear h hb
    go_enter Tryd.func71, Tryd.ntmps71
    go_wp2_with (go_at_call 50; refine (in_any _ _ _ _).mono ?_; rw [hin]; rintro e w' ⟨rfl, rfl⟩)
    go_ret
    exact ⟨rfl, HB.out _⟩
  · have hin : decide (0 ≤ b ∧ b ≤ 1000000) = false := decide_eq_false hb
    clear h hb
    go_enter Tryd.func71, Tryd.ntmps71
    go_wp2_with (go_at_call 50; refine (in_any _ _ _ _).mono ?_; rw [hin]; rintro e w' ⟨rfl, rfl⟩)
    go_ret
    exact ⟨rfl, HB.out _⟩


set_option maxRecDepth 100000 in
set_option maxHeartbeats 4000000 in
theorem specRecOk_1 (b : Int) (key val : ByteArray) (c s : Int) (w : World) (h1 : 1 ≤ b) (h2 : b ≤ 1000000) (hv : val.size ≤ maxLen) :
    Calls Tryd.prog 71 #[.agg #[.int .i64 1, .int .i64 b, .string key, .string val, .int .i64 c, .int .i64 s]] w fun e w' => e = .returned (.bool (okN 1 b key.size val.size c s)) ∧ Below w.heap.size w w' := by
  unfold maxLen at hv
  have HB : Hid (∀ o : Obj, Below w.heap.size w (w.alloc o)) := hide (fun o => (Below.refl _ _).alloc (Nat.le_refl _) o)
  have hin : decide (0 ≤ b ∧ b ≤ 1000000) = true := decide_eq_true (by omega)
  have t1 : (b == 0) = false := by simp; omega
  by_cases q1 : 1 ≤ key.size ∧ key.size ≤ 8
  · have HK := hide (keyB_yes q1)
    by_cases q2 : val.size ≤ 24
    · have t2 : decide ((val.size : Int) ≤ 24) = true := by simp; omega
      by_cases q3 : c = 0
      · have t3 : (c == 0) = true := by simpa using q3
        by_cases q4 : s = 0
        · have t4 : (s == 0) = true := by simpa using q4
          have HV : Hid (okN 1 b key.size val.size c s = true) := hide (okN_yes (by unfold RecOkP; omega))
          clear q1 q2 q3 q4 h1 h2
          go_enter Tryd.func71, Tryd.ntmps71
          go_wp2_with (first | (go_at_call 50; refine (in_any _ _ _ _).mono ?_; rw [hin]; rintro e w' ⟨rfl, rfl⟩) | (go_at_call 80; refine (specKey_any _ _).mono ?_; rw [HK.out]; rintro e w' ⟨rfl, rfl⟩))
          go_ret
          exact ⟨by rw [HV.out]; rfl, HB.out _⟩
        · have t4 : (s == 0) = false := by simpa using q4
          have HV : Hid (okN 1 b key.size val.size c s = false) := hide (okN_no (by unfold RecOkP; omega))
          clear q1 q2 q3 q4 h1 h2
          go_enter Tryd.func71, Tryd.ntmps71
          go_wp2_with (first | (go_at_call 50; refine (in_any _ _ _ _).mono ?_; rw [hin]; rintro e w' ⟨rfl, rfl⟩) | (go_at_call 80; refine (specKey_any _ _).mono ?_; rw [HK.out]; rintro e w' ⟨rfl, rfl⟩))
          go_ret
          exact ⟨by rw [HV.out]; rfl, HB.out _⟩
      · have t3 : (c == 0) = false := by simpa using q3
        have HV : Hid (okN 1 b key.size val.size c s = false) := hide (okN_no (by unfold RecOkP; omega))
        clear q1 q2 q3 h1 h2
        go_enter Tryd.func71, Tryd.ntmps71
        go_wp2_with (first | (go_at_call 50; refine (in_any _ _ _ _).mono ?_; rw [hin]; rintro e w' ⟨rfl, rfl⟩) | (go_at_call 80; refine (specKey_any _ _).mono ?_; rw [HK.out]; rintro e w' ⟨rfl, rfl⟩))
        go_ret
        exact ⟨by rw [HV.out]; rfl, HB.out _⟩
    · have t2 : decide ((val.size : Int) ≤ 24) = false := by simp; omega
      have HV : Hid (okN 1 b key.size val.size c s = false) := hide (okN_no (by unfold RecOkP; omega))
      clear q1 q2 h1 h2
      go_enter Tryd.func71, Tryd.ntmps71
      go_wp2_with (first | (go_at_call 50; refine (in_any _ _ _ _).mono ?_; rw [hin]; rintro e w' ⟨rfl, rfl⟩) | (go_at_call 80; refine (specKey_any _ _).mono ?_; rw [HK.out]; rintro e w' ⟨rfl, rfl⟩))
      go_ret
      exact ⟨by rw [HV.out]; rfl, HB.out _⟩
  · have HK := hide (keyB_no q1)
    have HV : Hid (okN 1 b key.size val.size c s = false) := hide (okN_no (by unfold RecOkP; omega))
    clear q1 h1 h2
    go_enter Tryd.func71, Tryd.ntmps71
    go_wp2_with (first | (go_at_call 50; refine (in_any _ _ _ _).mono ?_; rw [hin]; rintro e w' ⟨rfl, rfl⟩) | (go_at_call 80; refine (specKey_any _ _).mono ?_; rw [HK.out]; rintro e w' ⟨rfl, rfl⟩))
    go_ret
    exact ⟨by rw [HV.out]; rfl, HB.out _⟩

set_option maxRecDepth 100000 in
set_option maxHeartbeats 4000000 in
theorem specRecOk_4 (b : Int) (key val : ByteArray) (c s : Int) (w : World) (h1 : 1 ≤ b) (h2 : b ≤ 1000000) (hv : val.size ≤ maxLen) :
    Calls Tryd.prog 71 #[.agg #[.int .i64 4, .int .i64 b, .string key, .string val, .int .i64 c, .int .i64 s]] w fun e w' => e = .returned (.bool (okN 4 b key.size val.size c s)) ∧ Below w.heap.size w w' := by
  unfold maxLen at hv
  have HB : Hid (∀ o : Obj, Below w.heap.size w (w.alloc o)) := hide (fun o => (Below.refl _ _).alloc (Nat.le_refl _) o)
  have hin : decide (0 ≤ b ∧ b ≤ 1000000) = true := decide_eq_true (by omega)
  have t1 : (b == 0) = false := by simp; omega
  by_cases q1 : 1 ≤ key.size ∧ key.size ≤ 8
  · have HK := hide (keyB_yes q1)
    by_cases q2 : val.size ≤ 24
    · have t2 : decide ((val.size : Int) ≤ 24) = true := by simp; omega
      by_cases q3 : c = 0
      · have t3 : (c == 0) = true := by simpa using q3
        by_cases q4 : s = 0
        · have t4 : (s == 0) = true := by simpa using q4
          have HV : Hid (okN 4 b key.size val.size c s = true) := hide (okN_yes (by unfold RecOkP; omega))
          clear q1 q2 q3 q4 h1 h2
          go_enter Tryd.func71, Tryd.ntmps71
          go_wp2_with (first | (go_at_call 50; refine (in_any _ _ _ _).mono ?_; rw [hin]; rintro e w' ⟨rfl, rfl⟩) | (go_at_call 80; refine (specKey_any _ _).mono ?_; rw [HK.out]; rintro e w' ⟨rfl, rfl⟩))
          go_ret
          exact ⟨by rw [HV.out]; rfl, HB.out _⟩
        · have t4 : (s == 0) = false := by simpa using q4
          have HV : Hid (okN 4 b key.size val.size c s = false) := hide (okN_no (by unfold RecOkP; omega))
          clear q1 q2 q3 q4 h1 h2
          go_enter Tryd.func71, Tryd.ntmps71
          go_wp2_with (first | (go_at_call 50; refine (in_any _ _ _ _).mono ?_; rw [hin]; rintro e w' ⟨rfl, rfl⟩) | (go_at_call 80; refine (specKey_any _ _).mono ?_; rw [HK.out]; rintro e w' ⟨rfl, rfl⟩))
          go_ret
          exact ⟨by rw [HV.out]; rfl, HB.out _⟩
      · have t3 : (c == 0) = false := by simpa using q3
        have HV : Hid (okN 4 b key.size val.size c s = false) := hide (okN_no (by unfold RecOkP; omega))
        clear q1 q2 q3 h1 h2
        go_enter Tryd.func71, Tryd.ntmps71
        go_wp2_with (first | (go_at_call 50; refine (in_any _ _ _ _).mono ?_; rw [hin]; rintro e w' ⟨rfl, rfl⟩) | (go_at_call 80; refine (specKey_any _ _).mono ?_; rw [HK.out]; rintro e w' ⟨rfl, rfl⟩))
        go_ret
        exact ⟨by rw [HV.out]; rfl, HB.out _⟩
    · have t2 : decide ((val.size : Int) ≤ 24) = false := by simp; omega
      have HV : Hid (okN 4 b key.size val.size c s = false) := hide (okN_no (by unfold RecOkP; omega))
      clear q1 q2 h1 h2
      go_enter Tryd.func71, Tryd.ntmps71
      go_wp2_with (first | (go_at_call 50; refine (in_any _ _ _ _).mono ?_; rw [hin]; rintro e w' ⟨rfl, rfl⟩) | (go_at_call 80; refine (specKey_any _ _).mono ?_; rw [HK.out]; rintro e w' ⟨rfl, rfl⟩))
      go_ret
      exact ⟨by rw [HV.out]; rfl, HB.out _⟩
  · have HK := hide (keyB_no q1)
    have HV : Hid (okN 4 b key.size val.size c s = false) := hide (okN_no (by unfold RecOkP; omega))
    clear q1 h1 h2
    go_enter Tryd.func71, Tryd.ntmps71
    go_wp2_with (first | (go_at_call 50; refine (in_any _ _ _ _).mono ?_; rw [hin]; rintro e w' ⟨rfl, rfl⟩) | (go_at_call 80; refine (specKey_any _ _).mono ?_; rw [HK.out]; rintro e w' ⟨rfl, rfl⟩))
    go_ret
    exact ⟨by rw [HV.out]; rfl, HB.out _⟩

end Go.Proofs.YtkcjlalkniaapaaDoor
namespace Go.Proofs.YtkcjlalkniaapaaDoor
open Go.RowKit
open Plain


set_option maxRecDepth 100000 in
set_option maxHeartbeats 4000000 in
theorem specRecOk_2 (b : Int) (key val : ByteArray) (c s : Int) (w : World) (h1 : 1 ≤ b) (h2 : b ≤ 1000000) :
    Calls Tryd.prog 71 #[.agg #[.int .i64 2, .int .i64 b, .string key, .string val, .int .i64 c, .int .i64 s]] w fun e w' => e = .returned (.bool (okN 2 b key.size val.size c s)) ∧ Below w.heap.size w w' := by
  have HB : Hid (∀ o : Obj, Below w.heap.size w (w.alloc o)) := hide (fun o => (Below.refl _ _).alloc (Nat.le_refl _) o)
  have hin : decide (0 ≤ b ∧ b ≤ 1000000) = true := decide_eq_true (by omega)
  have t1 : (b == 0) = false := by simp; omega
  by_cases q1 : 1 ≤ key.size ∧ key.size ≤ 8
  · have HK := hide (keyB_yes q1)
    by_cases q2 : val.size = 0
    · have t2 := nil_eq q2
      by_cases q3 : c = 0
      · have t3 : (c == 0) = true := by simpa using q3
        by_cases q4 : s = 0
        · have t4 : (s == 0) = true := by simpa using q4
          have HV : Hid (okN 2 b key.size val.size c s = true) := hide (okN_yes (by unfold RecOkP; omega))
          clear q1 q2 q3 q4 h1 h2
          go_enter Tryd.func71, Tryd.ntmps71
          go_wp2_with (first | (go_at_call 50; refine (in_any _ _ _ _).mono ?_; rw [hin]; rintro e w' ⟨rfl, rfl⟩) | (go_at_call 80; refine (specKey_any _ _).mono ?_; rw [HK.out]; rintro e w' ⟨rfl, rfl⟩))
          go_ret
          exact ⟨by rw [HV.out]; rfl, HB.out _⟩
        · have t4 : (s == 0) = false := by simpa using q4
          have HV : Hid (okN 2 b key.size val.size c s = false) := hide (okN_no (by unfold RecOkP; omega))
          clear q1 q2 q3 q4 h1 h2
          go_enter Tryd.func71, Tryd.ntmps71
          go_wp2_with (first | (go_at_call 50; refine (in_any _ _ _ _).mono ?_; rw [hin]; rintro e w' ⟨rfl, rfl⟩) | (go_at_call 80; refine (specKey_any _ _).mono ?_; rw [HK.out]; rintro e w' ⟨rfl, rfl⟩))
          go_ret
          exact ⟨by rw [HV.out]; rfl, HB.out _⟩
      · have t3 : (c == 0) = false := by simpa using q3
        have HV : Hid (okN 2 b key.size val.size c s = false) := hide (okN_no (by unfold RecOkP; omega))
        clear q1 q2 q3 h1 h2
        go_enter Tryd.func71, Tryd.ntmps71
        go_wp2_with (first | (go_at_call 50; refine (in_any _ _ _ _).mono ?_; rw [hin]; rintro e w' ⟨rfl, rfl⟩) | (go_at_call 80; refine (specKey_any _ _).mono ?_; rw [HK.out]; rintro e w' ⟨rfl, rfl⟩))
        go_ret
        exact ⟨by rw [HV.out]; rfl, HB.out _⟩
    · have t2 := nil_ne q2
      have HV : Hid (okN 2 b key.size val.size c s = false) := hide (okN_no (by unfold RecOkP; omega))
      clear q1 q2 h1 h2
      go_enter Tryd.func71, Tryd.ntmps71
      go_wp2_with (first | (go_at_call 50; refine (in_any _ _ _ _).mono ?_; rw [hin]; rintro e w' ⟨rfl, rfl⟩) | (go_at_call 80; refine (specKey_any _ _).mono ?_; rw [HK.out]; rintro e w' ⟨rfl, rfl⟩))
      go_ret
      exact ⟨by rw [HV.out]; rfl, HB.out _⟩
  · have HK := hide (keyB_no q1)
    have HV : Hid (okN 2 b key.size val.size c s = false) := hide (okN_no (by unfold RecOkP; omega))
    clear q1 h1 h2
    go_enter Tryd.func71, Tryd.ntmps71
    go_wp2_with (first | (go_at_call 50; refine (in_any _ _ _ _).mono ?_; rw [hin]; rintro e w' ⟨rfl, rfl⟩) | (go_at_call 80; refine (specKey_any _ _).mono ?_; rw [HK.out]; rintro e w' ⟨rfl, rfl⟩))
    go_ret
    exact ⟨by rw [HV.out]; rfl, HB.out _⟩

end Go.Proofs.YtkcjlalkniaapaaDoor
namespace Go.Proofs.YtkcjlalkniaapaaDoor
open Go.RowKit
open Plain


set_option maxRecDepth 100000 in
set_option maxHeartbeats 4000000 in
theorem specRecOk_3 (b : Int) (key val : ByteArray) (c s : Int) (w : World) (h1 : 1 ≤ b) (h2 : b ≤ 1000000) :
    Calls Tryd.prog 71 #[.agg #[.int .i64 3, .int .i64 b, .string key, .string val, .int .i64 c, .int .i64 s]] w fun e w' => e = .returned (.bool (okN 3 b key.size val.size c s)) ∧ Below w.heap.size w w' := by
  have HB : Hid (∀ o : Obj, Below w.heap.size w (w.alloc o)) := hide (fun o => (Below.refl _ _).alloc (Nat.le_refl _) o)
  have hin : decide (0 ≤ b ∧ b ≤ 1000000) = true := decide_eq_true (by omega)
  have t1 : (b == 0) = false := by simp; omega
  by_cases q1 : key.size = 0
  · have t2 := nil_eq q1
    by_cases q2 : val.size = 0
    · have t3 := nil_eq q2
      by_cases q3 : 0 ≤ c ∧ c ≤ 8
      · have hc : decide (0 ≤ c ∧ c ≤ 8) = true := decide_eq_true q3
        by_cases q4 : 0 ≤ s ∧ s ≤ 4294967295
        · have hs : decide (0 ≤ s ∧ s ≤ 4294967295) = true := decide_eq_true q4
          have HV : Hid (okN 3 b key.size val.size c s = true) := hide (okN_yes (by unfold RecOkP; omega))
          clear q1 q2 q3 q4 h1 h2
          go_enter Tryd.func71, Tryd.ntmps71
          go_wp2_with (go_at_call 50; refine (in_any _ _ _ _).mono ?_; (first | rw [hin] | rw [hc] | rw [hs]); rintro e w' ⟨rfl, rfl⟩)
          go_ret
          exact ⟨by rw [HV.out]; rfl, HB.out _⟩
        · have hs : decide (0 ≤ s ∧ s ≤ 4294967295) = false := decide_eq_false q4
          have HV : Hid (okN 3 b key.size val.size c s = false) := hide (okN_no (by unfold RecOkP; omega))
          clear q1 q2 q3 q4 h1 h2
          go_enter Tryd.func71, Tryd.ntmps71
          go_wp2_with (go_at_call 50; refine (in_any _ _ _ _).mono ?_; (first | rw [hin] | rw [hc] | rw [hs]); rintro e w' ⟨rfl, rfl⟩)
          go_ret
          exact ⟨by rw [HV.out]; rfl, HB.out _⟩
      · have hc : decide (0 ≤ c ∧ c ≤ 8) = false := decide_eq_false q3
        have HV : Hid (okN 3 b key.size val.size c s = false) := hide (okN_no (by unfold RecOkP; omega))
        clear q1 q2 q3 h1 h2
        go_enter Tryd.func71, Tryd.ntmps71
        go_wp2_with (go_at_call 50; refine (in_any _ _ _ _).mono ?_; (first | rw [hin] | rw [hc] | rw [hs]); rintro e w' ⟨rfl, rfl⟩)
        go_ret
        exact ⟨by rw [HV.out]; rfl, HB.out _⟩
    · have t3 := nil_ne q2
      have HV : Hid (okN 3 b key.size val.size c s = false) := hide (okN_no (by unfold RecOkP; omega))
      clear q1 q2 h1 h2
      go_enter Tryd.func71, Tryd.ntmps71
      go_wp2_with (go_at_call 50; refine (in_any _ _ _ _).mono ?_; (first | rw [hin] | rw [hc] | rw [hs]); rintro e w' ⟨rfl, rfl⟩)
      go_ret
      exact ⟨by rw [HV.out]; rfl, HB.out _⟩
  · have t2 := nil_ne q1
    have HV : Hid (okN 3 b key.size val.size c s = false) := hide (okN_no (by unfold RecOkP; omega))
    clear q1 h1 h2
    go_enter Tryd.func71, Tryd.ntmps71
    go_wp2_with (go_at_call 50; refine (in_any _ _ _ _).mono ?_; (first | rw [hin] | rw [hc] | rw [hs]); rintro e w' ⟨rfl, rfl⟩)
    go_ret
    exact ⟨by rw [HV.out]; rfl, HB.out _⟩

end Go.Proofs.YtkcjlalkniaapaaDoor
namespace Go.Proofs.YtkcjlalkniaapaaDoor
open Go.RowKit
open Plain


set_option maxRecDepth 100000 in
set_option maxHeartbeats 4000000 in
theorem specRecOk_5 (b : Int) (key val : ByteArray) (c s : Int) (w : World) (h1 : 0 ≤ b) (h2 : b ≤ 1000000) :
    Calls Tryd.prog 71 #[.agg #[.int .i64 5, .int .i64 b, .string key, .string val, .int .i64 c, .int .i64 s]] w fun e w' => e = .returned (.bool (okN 5 b key.size val.size c s)) ∧ Below w.heap.size w w' := by
  have HB : Hid (∀ o : Obj, Below w.heap.size w (w.alloc o)) := hide (fun o => (Below.refl _ _).alloc (Nat.le_refl _) o)
  have hin : decide (0 ≤ b ∧ b ≤ 1000000) = true := decide_eq_true (by omega)
  by_cases q1 : key.size = 0
  · have t2 := nil_eq q1
    by_cases q2 : val.size = 0
    · have t3 := nil_eq q2
      by_cases q3 : 0 ≤ c ∧ c ≤ 20
      · have hc : decide (0 ≤ c ∧ c ≤ 20) = true := decide_eq_true q3
        by_cases q4 : 0 ≤ s ∧ s ≤ 4294967295
        · have hs : decide (0 ≤ s ∧ s ≤ 4294967295) = true := decide_eq_true q4
          have HV : Hid (okN 5 b key.size val.size c s = true) := hide (okN_yes (by unfold RecOkP; omega))
          clear q1 q2 q3 q4 h1 h2
          by_cases qb : b = 0
          · have t1 : (b == 0) = true := by simpa using qb
            clear qb
            go_enter Tryd.func71, Tryd.ntmps71
            go_wp2_with (go_at_call 50; refine (in_any _ _ _ _).mono ?_; (first | rw [hin] | rw [hc] | rw [hs]); rintro e w' ⟨rfl, rfl⟩)
            go_ret
            exact ⟨by rw [HV.out]; rfl, HB.out _⟩
          · have t1 : (b == 0) = false := by simpa using qb
            clear qb
            go_enter Tryd.func71, Tryd.ntmps71
            go_wp2_with (go_at_call 50; refine (in_any _ _ _ _).mono ?_; (first | rw [hin] | rw [hc] | rw [hs]); rintro e w' ⟨rfl, rfl⟩)
            go_ret
            exact ⟨by rw [HV.out]; rfl, HB.out _⟩
        · have hs : decide (0 ≤ s ∧ s ≤ 4294967295) = false := decide_eq_false q4
          have HV : Hid (okN 5 b key.size val.size c s = false) := hide (okN_no (by unfold RecOkP; omega))
          clear q1 q2 q3 q4 h1 h2
          by_cases qb : b = 0
          · have t1 : (b == 0) = true := by simpa using qb
            clear qb
            go_enter Tryd.func71, Tryd.ntmps71
            go_wp2_with (go_at_call 50; refine (in_any _ _ _ _).mono ?_; (first | rw [hin] | rw [hc] | rw [hs]); rintro e w' ⟨rfl, rfl⟩)
            go_ret
            exact ⟨by rw [HV.out]; rfl, HB.out _⟩
          · have t1 : (b == 0) = false := by simpa using qb
            clear qb
            go_enter Tryd.func71, Tryd.ntmps71
            go_wp2_with (go_at_call 50; refine (in_any _ _ _ _).mono ?_; (first | rw [hin] | rw [hc] | rw [hs]); rintro e w' ⟨rfl, rfl⟩)
            go_ret
            exact ⟨by rw [HV.out]; rfl, HB.out _⟩
      · have hc : decide (0 ≤ c ∧ c ≤ 20) = false := decide_eq_false q3
        have HV : Hid (okN 5 b key.size val.size c s = false) := hide (okN_no (by unfold RecOkP; omega))
        clear q1 q2 q3 h1 h2
        by_cases qb : b = 0
        · have t1 : (b == 0) = true := by simpa using qb
          clear qb
          go_enter Tryd.func71, Tryd.ntmps71
          go_wp2_with (go_at_call 50; refine (in_any _ _ _ _).mono ?_; (first | rw [hin] | rw [hc] | rw [hs]); rintro e w' ⟨rfl, rfl⟩)
          go_ret
          exact ⟨by rw [HV.out]; rfl, HB.out _⟩
        · have t1 : (b == 0) = false := by simpa using qb
          clear qb
          go_enter Tryd.func71, Tryd.ntmps71
          go_wp2_with (go_at_call 50; refine (in_any _ _ _ _).mono ?_; (first | rw [hin] | rw [hc] | rw [hs]); rintro e w' ⟨rfl, rfl⟩)
          go_ret
          exact ⟨by rw [HV.out]; rfl, HB.out _⟩
    · have t3 := nil_ne q2
      have HV : Hid (okN 5 b key.size val.size c s = false) := hide (okN_no (by unfold RecOkP; omega))
      clear q1 q2 h1 h2
      by_cases qb : b = 0
      · have t1 : (b == 0) = true := by simpa using qb
        clear qb
        go_enter Tryd.func71, Tryd.ntmps71
        go_wp2_with (go_at_call 50; refine (in_any _ _ _ _).mono ?_; (first | rw [hin] | rw [hc] | rw [hs]); rintro e w' ⟨rfl, rfl⟩)
        go_ret
        exact ⟨by rw [HV.out]; rfl, HB.out _⟩
      · have t1 : (b == 0) = false := by simpa using qb
        clear qb
        go_enter Tryd.func71, Tryd.ntmps71
        go_wp2_with (go_at_call 50; refine (in_any _ _ _ _).mono ?_; (first | rw [hin] | rw [hc] | rw [hs]); rintro e w' ⟨rfl, rfl⟩)
        go_ret
        exact ⟨by rw [HV.out]; rfl, HB.out _⟩
  · have t2 := nil_ne q1
    have HV : Hid (okN 5 b key.size val.size c s = false) := hide (okN_no (by unfold RecOkP; omega))
    clear q1 h1 h2
    by_cases qb : b = 0
    · have t1 : (b == 0) = true := by simpa using qb
      clear qb
      go_enter Tryd.func71, Tryd.ntmps71
      go_wp2_with (go_at_call 50; refine (in_any _ _ _ _).mono ?_; (first | rw [hin] | rw [hc] | rw [hs]); rintro e w' ⟨rfl, rfl⟩)
      go_ret
      exact ⟨by rw [HV.out]; rfl, HB.out _⟩
    · have t1 : (b == 0) = false := by simpa using qb
      clear qb
      go_enter Tryd.func71, Tryd.ntmps71
      go_wp2_with (go_at_call 50; refine (in_any _ _ _ _).mono ?_; (first | rw [hin] | rw [hc] | rw [hs]); rintro e w' ⟨rfl, rfl⟩)
      go_ret
      exact ⟨by rw [HV.out]; rfl, HB.out _⟩

end Go.Proofs.YtkcjlalkniaapaaDoor
namespace Go.Proofs.YtkcjlalkniaapaaDoor
open Go.RowKit
open Plain


set_option maxRecDepth 100000 in
set_option maxHeartbeats 4000000 in
theorem specRecOk_other (k b : Int) (key val : ByteArray) (c s : Int) (w : World) (h1 : 1 ≤ b) (h2 : b ≤ 1000000) (k1 : k ≠ 1) (k2 : k ≠ 2) (k3 : k ≠ 3) (k4 : k ≠ 4) (k5 : k ≠ 5) :
    Calls Tryd.prog 71 #[.agg #[.int .i64 k, .int .i64 b, .string key, .string val, .int .i64 c, .int .i64 s]] w fun e w' => e = .returned (.bool (okN k b key.size val.size c s)) ∧ Below w.heap.size w w' := by
  have HB : Hid (∀ o : Obj, Below w.heap.size w (w.alloc o)) := hide (fun o => (Below.refl _ _).alloc (Nat.le_refl _) o)
  have hin : decide (0 ≤ b ∧ b ≤ 1000000) = true := decide_eq_true (by omega)
  have t1 : (b == 0) = false := by simp; omega
  have HV : Hid (okN k b key.size val.size c s = false) := hide (okN_no (by unfold RecOkP; omega))
  have n1 : (k == 1) = false := by simpa using k1
  have n2 : (k == 2) = false := by simpa using k2
  have n3 : (k == 3) = false := by simpa using k3
  have n4 : (k == 4) = false := by simpa using k4
  have n5 : (k == 5) = false := by simpa using k5
  clear k1 k2 k3 k4 k5 h1 h2
  go_enter Tryd.func71, Tryd.ntmps71
  go_wp2_with (go_at_call 50; refine (in_any _ _ _ _).mono ?_; rw [hin]; rintro e w' ⟨rfl, rfl⟩)
  go_ret
  exact ⟨by rw [HV.out]; rfl, HB.out _⟩

theorem specRecOk_any (r : RecV) (w : World) (hv : r.val.size ≤ maxLen) :
    Calls Tryd.prog 71 #[.agg #[.int .i64 r.kind, .int .i64 r.batch, .string r.key, .string r.val, .int .i64 r.cnt, .int .i64 r.sum]] w fun e w' => e = .returned (.bool (recOkB r)) ∧ Below w.heap.size w w' := by
  obtain ⟨k, b, key, val, c, s⟩ := r
  unfold recOkB
  simp only at hv ⊢
  by_cases hb : ¬ (1 ≤ b ∨ (b = 0 ∧ k = 5)) ∨ 1000000 < b
  · rw [okN_no (by unfold RecOkP; omega)]
    exact specRecOk_batch k b key val c s w hb
  · by_cases k1 : k = 1
    · subst k1; exact specRecOk_1 b key val c s w (by omega) (by omega) hv
    by_cases k2 : k = 2
    · subst k2; exact specRecOk_2 b key val c s w (by omega) (by omega)
    by_cases k3 : k = 3
    · subst k3; exact specRecOk_3 b key val c s w (by omega) (by omega)
    by_cases k4 : k = 4
    · subst k4; exact specRecOk_4 b key val c s w (by omega) (by omega) hv
    by_cases k5 : k = 5
    · subst k5; exact specRecOk_5 b key val c s w (by omega) (by omega)
    exact specRecOk_other k b key val c s w (by omega) (by omega) k1 k2 k3 k4 k5

end Go.Proofs.YtkcjlalkniaapaaDoor
