/-
  What spec.Var answers at every number; it makes new memory only.
-/
import Derived.Test.YtimpokbcfjgdaaaDoorIn
namespace Go.Proofs.YtimpokbcfjgdaaaDoor
open Go.RowKit
open Plain

set_option maxHeartbeats 400000 in
theorem specVar_no (n : Int) (w : World) (h : n < 0 ∨ 562949953421311 < n) :
    Calls Tryd.prog 16 #[.int .i64 n] w fun e w' => e = .returned (.string ⟨#[]⟩) ∧ w = w' := by
  have hin : decide (0 ≤ n ∧ n ≤ 562949953421311) = false := by simp; omega
  go_enter Tryd.func16, Tryd.ntmps16
  go_wp2_with (go_at_call 35; refine (in_any _ _ _ _).mono ?_; rw [hin]; rintro e w' ⟨rfl, rfl⟩)
  go_ret
  exact ⟨rfl, rfl⟩

set_option maxRecDepth 100000 in
set_option maxHeartbeats 400000 in
theorem specVar_yes (n : Nat) (w : World) (hn : n ≤ 562949953421311) :
    Calls Tryd.prog 16 #[.int .i64 n] w fun e w' => e = .returned (.string (strOfNums (vb n))) ∧ Below w.heap.size w w' := by
  have hin : decide ((0:Int) ≤ n ∧ (n:Int) ≤ 562949953421311) = true := by simp; omega
  have H7 := vb_len7 n hn
  go_enter Tryd.func16, Tryd.ntmps16
  go_wp2_with (go_at_call 35; refine (in_any _ _ _ _).mono ?_; rw [hin]; rintro e w' ⟨rfl, rfl⟩)
  go_loopw [0, 3] (fun a v wr => ∃ (q : Nat) (p : List Int), q ≤ 562949953421311 ∧ a = .int .i64 q ∧ wr.ownsRow w.heap.size 5 1 v p.length (p.map (Value.int .u8)) ∧ Hid (p ++ vb q = vb n) ∧ Below w.heap.size w wr) (fun a _ _ => (intOf a).toNat)
  case atStart => exact ⟨n, [], hn, rfl, World.ownsRow_lit w #[] 0 (Nat.le_refl _) (by unfold maxLen; omega) rfl, hide rfl, (Below.refl _ _).alloc (Nat.le_refl _) _⟩
  case round =>
    obtain ⟨q, p, hq, rfl, hown, HP, hB⟩ := hrel
    have hpl : p.length ≤ 7 := by have := congrArg List.length HP.out; simp at this; omega
    by_cases hs : q < 128
    · go_wp2_with (at_builtin; refine wpList_app_byte rfl (.tmp 19) (.tmp 22) rfl hown hB.size _ (by omega) rfl rfl ?_; intro v' w2 hown2 hB2; have hcv := cv_own (L := vb n) (by rw [← HP.out, vb_small q hs]; simpa using hown2))
      go_ret
      exact ⟨rfl, hB.trans ‹_›⟩
    · go_wp2_with (at_builtin; refine wpList_app_byte rfl (.tmp 10) (.tmp 15) rfl hown hB.size _ (by omega) rfl rfl ?_; intro v' w2 hown2 hB2)
      rename_i v' w2 hown2 hB2
      go_roundw
      case rel => exact ⟨q / 128, p ++ [128 + (q : Int) % 128], by omega, by go_num, by simpa using hown2, hide (by rw [← HP.out, vb_big q hs]; simp), hB.trans hB2⟩
      case measure => simp [intOf]; omega

end Go.Proofs.YtimpokbcfjgdaaaDoor
