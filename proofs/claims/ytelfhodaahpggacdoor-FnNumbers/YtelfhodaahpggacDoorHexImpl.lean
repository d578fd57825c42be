/-
  What impl.Hex answers at every text of at most 1048576 bytes; it makes new memory only.
-/
import Derived.Test.YtelfhodaahpggacDoorPut
namespace Go.Proofs.YtelfhodaahpggacDoor
open Go.RowKit
open Plain

set_option maxRecDepth 100000 in
set_option maxHeartbeats 1000000 in
theorem implHex_any (s : ByteArray) (w : World) (hs : s.size ≤ 1048576) :
    Calls Tryd.prog 14 #[.string s] w fun e w' => e = .returned (.string (strOfNums (hx (bl s)))) ∧ Below w.heap.size w w' := by
  obtain ⟨i0, hi, hz0, hz1, hz2⟩ := info_parts Tryd.info5
  obtain ⟨w1, hmk0, hown, hgrow⟩ := run_make_full (P := Tryd.prog) w w.heap.size 22 5 i0 (.int .u8 0) 1 Tryd.underlying22 hi hz0 hz1 .i64 .i64 (2 * s.size) (by rw [hz2]; omega) (by unfold maxLen; omega) (Nat.le_refl _)
  have hmk : (Instr.makeSlice 22 (.int .i64 (2 * (s.size : Int))) (.int .i64 (2 * (s.size : Int)))).run Tryd.prog w = .ok (.slice (some ⟨w.heap.size, 0, none⟩) (2 * s.size) (2 * s.size)) w1 := by
    have e : ((2 * s.size : Nat) : Int) = 2 * (s.size : Int) := by omega
    rw [e] at hmk0; exact hmk0
  have hB1 : Below w.heap.size w w1 := (Below.refl _ _).grown hgrow (Nat.le_refl _) (by intro k h; cases h)
  have HR : Hid (w1.heap[w.heap.size]? = some (.cells (rowOf (2 * s.size) (hx ((bl s).take 0))).toArray 5 (0, 0))) := hide (by rw [made_row hown, List.take_zero, hx, rowOf_nil])
  clear hown hgrow hi hz0 hz1 hz2 hmk0
  go_enter Tryd.func14, Tryd.ntmps14
  go_wp2
  go_loopw [4, 12] (fun a i wr => ∃ k : Nat, k ≤ s.size ∧ i = .int .i64 k ∧ a = .int .i64 ((hx ((bl s).take k)).length) ∧ Hid (wr.heap[w.heap.size]? = some (.cells (rowOf (2 * s.size) (hx ((bl s).take k))).toArray 5 (0, 0))) ∧ Below w.heap.size w wr) (fun _ i _ => s.size - (intOf i).toNat)
  case atStart => exact ⟨0, by omega, rfl, rfl, HR, hB1⟩
  case round =>
    clear HR hB1 hmk
    obtain ⟨k, hk, rfl, rfl, HR, hB⟩ := hrel
    have HL := hide (hx_take_length s k hk)
    by_cases hlt : k < s.size
    · have hc := UInt8.toNat_lt s[k]
      have HX := hide (hx_step s k hlt)
      have hl2 : (hx ((bl s).take k)).length + 2 ≤ 2 * s.size := by rw [HL.out]; omega
      have HR1 : Hid (wr.drew.heap[w.heap.size]? = some (.cells (rowOf (2 * s.size) (hx ((bl s).take k))).toArray 5 (0, 0))) := HR
      have hB1 : Below w.heap.size w wr.drew := hB.drew
      have e15 := and15_u8 s[k].toNat hc
      have hi1 := idx_hex .u8 ((s[k].toNat : Int) / 16) (by omega) (by omega)
      have hi2 := idx_hex .u8 ((s[k].toNat : Int) % 16) (by omega) (by omega)
      rw [show ((s[k].toNat : Int) / 16).toNat = s[k].toNat / 16 from by omega] at hi1
      rw [show ((s[k].toNat : Int) % 16).toNat = s[k].toNat % 16 from by omega] at hi2
      go_wp2
      go_region_with (go_at_call 19; refine (put2 w.heap.size (2 * s.size) w.heap.size (hx ((bl s).take k)) (dg (s[k].toNat / 16)) (dg (s[k].toNat % 16)) w wr.drew hl2 (by omega) HR1 hB1 hB1.size (Nat.le_refl _)).mono ?_; rintro e w2 ⟨rfl, HR2, hB2⟩)
      all_goals
        have HR3 : Hid (w2.heap[w.heap.size]? = some (.cells (rowOf (2 * s.size) (hx ((bl s).take (k + 1)))).toArray 5 (0, 0))) := hide (by rw [HX.out]; exact HR2.out)
        have HL3 : Hid ((((hx ((bl s).take k)).length : Nat) : Int) + 2 = ((hx ((bl s).take (k + 1))).length : Nat)) := hide (by rw [HX.out]; simp)
        clear HR HR1 HR2 hB hB1 e15 hi1 hi2 HX HL
        go_wp2
        go_roundw
        case rel => exact ⟨k + 1, by omega, by go_num, val_int HL3.out, HR3, hB2⟩
        case measure => simp [intOf]; omega
    · obtain rfl : k = s.size := by omega
      rw [bl_take_all] at HR HL
      have hcv : (convert 22 9 (.slice (some ⟨w.heap.size, 0, none⟩) (2 * s.size) (2 * s.size))).run Tryd.prog wr = .ok (.string (strOfNums (hx (bl s)))) wr := cv_pre HR.out HL.out
      clear HR
      go_wp2
      go_ret
      exact ⟨rfl, hB⟩

end Go.Proofs.YtelfhodaahpggacDoor
