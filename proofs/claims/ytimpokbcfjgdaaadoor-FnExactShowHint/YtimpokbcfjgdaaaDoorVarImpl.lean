/-
  What impl.Var answers at every number; it makes new memory only.
-/
import Derived.Test.YtimpokbcfjgdaaaDoorPut
namespace Go.Proofs.YtimpokbcfjgdaaaDoor
open Go.RowKit
open Plain

set_option maxHeartbeats 400000 in
theorem implVar_no (n : Int) (w : World) (h : n < 0 ∨ 562949953421311 < n) :
    Calls Tryd.prog 22 #[.int .i64 n] w fun e w' => e = .returned (.string ⟨#[]⟩) ∧ w = w' := by
  by_cases h1 : n < 0
  · go_enter Tryd.func22, Tryd.ntmps22
    go_wp2
    go_ret
    exact ⟨rfl, rfl⟩
  · have h2 : 562949953421311 < n := by omega
    go_enter Tryd.func22, Tryd.ntmps22
    go_wp2
    go_ret
    exact ⟨rfl, rfl⟩

set_option maxRecDepth 100000 in
set_option maxHeartbeats 400000 in
theorem implVar_yes (n : Nat) (w : World) (hn : n ≤ 562949953421311) :
    Calls Tryd.prog 22 #[.int .i64 n] w fun e w' => e = .returned (.string (strOfNums (vb n))) ∧ Below w.heap.size w w' := by
  have H7 := vb_len7 n hn
  obtain ⟨i0, hi, hz0, hz1, hz2⟩ := info_parts Tryd.info5
  obtain ⟨w1, hmk0, hown, hgrow⟩ := run_make_full (P := Tryd.prog) w w.heap.size 46 5 i0 (.int .u8 0) 1 Tryd.underlying46 hi hz0 hz1 .i64 .i64 7 (by rw [hz2]; omega) (by unfold maxLen; omega) (Nat.le_refl _)
  have hmk : (Instr.makeSlice 46 (.int .i64 7) (.int .i64 7)).run Tryd.prog w = .ok (.slice (some ⟨w.heap.size, 0, none⟩) 7 7) w1 := hmk0
  have hB1 : Below w.heap.size w w1 := (Below.refl _ _).grown hgrow (Nat.le_refl _) (by intro k h; cases h)
  have HR : Hid (w1.heap[w.heap.size]? = some (.cells (rowOf 7 []).toArray 5 (0, 0))) := hide (by rw [made_row hown, rowOf_nil])
  clear hown hgrow hi hz0 hz1 hz2 hmk0
  go_enter Tryd.func22, Tryd.ntmps22
  go_wp2
  go_loopw [0, 4] (fun a v wr => ∃ (q : Nat) (p : List Int), q ≤ 562949953421311 ∧ a = .int .i64 q ∧ v = .int .i64 p.length ∧ Hid (wr.heap[w.heap.size]? = some (.cells (rowOf 7 p).toArray 5 (0, 0))) ∧ Hid (p ++ vb q = vb n) ∧ Below w.heap.size w wr) (fun a _ _ => (intOf a).toNat)
  case atStart => exact ⟨n, [], hn, rfl, rfl, HR, hide rfl, hB1⟩
  case round =>
    clear HR hB1 hmk
    obtain ⟨q, p, hq, rfl, rfl, HR, HP, hB⟩ := hrel
    have hpl : p.length + (vb q).length ≤ 7 := by have := congrArg List.length HP.out; simp at this; omega
    have hvp := vb_pos q
    have hlt2 : w.heap.size < wr.heap.size := lt_of_block HR.out
    by_cases hs : q < 128
    · go_wp2_with fail
      refine (put1 w.heap.size 7 w.heap.size p (q : Int) w wr (by omega) (by omega) HR hB hB.size (Nat.le_refl _)).mono ?_
      rintro e w2 ⟨rfl, HR2, hB2⟩
      have hL : p ++ [(q : Int)] = vb n := by rw [← HP.out, vb_small q hs]
      have hl : (vb n).length = p.length + 1 := by rw [← hL]; simp
      rw [hL] at HR2
      have hcv := cv_pre HR2.out hl
      clear HR2 HR hL hl HP
      go_wp2
      go_ret
      exact ⟨rfl, hB2⟩
    · have e1 := i64_and127 (q : Int)
      have e2 := or128 ((q : Int) % 128) (by omega) (by omega)
      have HP2 : Hid ((p ++ [128 + (q : Int) % 128]) ++ vb (q / 128) = vb n) := hide (by rw [← HP.out, vb_big q hs]; simp)
      have hv2 := vb_pos (q / 128)
      have hp2 : p.length + 2 ≤ 7 := by rw [vb_big q hs] at hpl; simp at hpl; omega
      go_wp2_with fail
      refine (put1 w.heap.size 7 w.heap.size p (128 + (q : Int) % 128) w wr (by omega) (by omega) HR hB hB.size (Nat.le_refl _)).mono ?_
      rintro e w2 ⟨rfl, HR2, hB2⟩
      clear HR HP e1 e2
      go_wp2
      go_roundw
      case rel => exact ⟨q / 128, _, by omega, by go_num, by simp, HR2, HP2, hB2⟩
      case measure => simp [intOf]; omega

end Go.Proofs.YtimpokbcfjgdaaaDoor
