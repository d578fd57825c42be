/-
  spec.RecOk: is a record right?
-/
import Derived.Test.YtimpokbcfjgdaaaGreatDoorHMRecSpecA
import Derived.Test.YtimpokbcfjgdaaaGreatDoorHG13
import Derived.Test.YtimpokbcfjgdaaaGreatDoorHMRecSpecD
namespace Go.Proofs.YtimpokbcfjgdaaaGreatDoor
open Go.RowKit
open Plain


set_option maxRecDepth 100000 in
set_option maxHeartbeats 4000000 in
theorem specRecOk_other (k b : Int) (key val : ByteArray) (c s : Int) (w : World) (h1 : 1 ≤ b) (h2 : b ≤ 1000000) (k1 : k ≠ 1) (k2 : k ≠ 2) (k3 : k ≠ 3) (k4 : k ≠ 4) (k5 : k ≠ 5) :
    Calls Tryz.prog 107 #[.agg #[.int .i64 k, .int .i64 b, .string key, .string val, .int .i64 c, .int .i64 s]] w fun e w' => e = .returned (.bool (okN k b key.size val.size c s)) ∧ Below w.heap.size w w' := by
  have HB : Hid (∀ o : Obj, Below w.heap.size w (w.alloc o)) := hide (fun o => (Below.refl _ _).alloc (Nat.le_refl _) o)
  have hin : decide (0 ≤ b ∧ b ≤ 1000000) = true := decide_eq_true (by omega)
  have t1 : (b == 0) = false := by simp; omega
  have HV : Hid (okN k b key.size val.size c s = false) := hide (okN_no (by unfold RecOkP; omega))
  have n1 : (k == 1) = false := by simpa using k1
  have n2 : (k == 2) = false := by simpa using k2
  have n3 : (k == 3) = false := by simpa using k3
  have n4 : (k == 4) = false := by simpa using k4
  have n5 : (k == 5) = false := by simpa using k5
  clear k1 k2 k3 k4 k5 h1 h2
  go_enter Tryz.func107, Tryz.ntmps107
  go_wp2_with (go_at_call 72; refine (in_any _ _ _ _).mono ?_; rw [hin]; rintro e w' ⟨rfl, rfl⟩)
  go_ret
  exact ⟨by rw [HV.out]; rfl, HB.out _⟩

theorem specRecOk_any (r : RecV) (w : World) (hv : r.val.size ≤ maxLen) :
    Calls Tryz.prog 107 #[.agg #[.int .i64 r.kind, .int .i64 r.batch, .string r.key, .string r.val, .int .i64 r.cnt, .int .i64 r.sum]] w fun e w' => e = .returned (.bool (recOkB r)) ∧ Below w.heap.size w w' := by
  obtain ⟨k, b, key, val, c, s⟩ := r
  unfold recOkB
  simp only at hv ⊢
  by_cases hb : ¬ (1 ≤ b ∨ (b = 0 ∧ k = 5)) ∨ 1000000 < b
  · rw [okN_no (by unfold RecOkP; omega)]
    exact specRecOk_batch k b key val c s w hb
  · by_cases k1 : k = 1
    · subst k1; exact specRecOk_1 b key val c s w (by omega) (by omega) hv
    by_cases k2 : k = 2
    · subst k2; exact specRecOk_2 b key val c s w (by omega) (by omega)
    by_cases k3 : k = 3
    · subst k3; exact specRecOk_3 b key val c s w (by omega) (by omega)
    by_cases k4 : k = 4
    · subst k4; exact specRecOk_4 b key val c s w (by omega) (by omega) hv
    by_cases k5 : k = 5
    · subst k5; exact specRecOk_5 b key val c s w (by omega) (by omega)
    exact specRecOk_other k b key val c s w (by omega) (by omega) k1 k2 k3 k4 k5

end Go.Proofs.YtimpokbcfjgdaaaGreatDoor
