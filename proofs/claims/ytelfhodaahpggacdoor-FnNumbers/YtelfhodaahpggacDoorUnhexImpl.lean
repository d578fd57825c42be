/-
  What impl.Unhex answers at every text of at most 1048576 bytes; it makes new memory only.
-/
import Derived.Test.YtelfhodaahpggacDoorUnhexBase
import Derived.Test.YtelfhodaahpggacDoorPut
namespace Go.Proofs.YtelfhodaahpggacDoor
open Go.RowKit
open Plain

set_option maxRecDepth 100000 in
set_option maxHeartbeats 400000 in
theorem slIndexByte (s : ByteArray) (c : Int) (w : World) :
    Calls Tryd.prog 34 #[.string s, .int .u8 c] w fun e w' => e = .returned (.int .i64 (Lib.indexByte s.data.toList c.toNat.toUInt8)) ∧ w = w' := by
  go_enter Tryd.func34, Tryd.ntmps34
  go_wp2
  rw [run_callFunc_extern Tryd.func43 (by kernel_rfl) (by kernel_rfl) (by kernel_rfl) (e := Extern.BytealgIndexByte.indexByte) (by kernel_rfl), Lib.run_indexByteString]
  simp only [Result.andThen]
  rw [Oper.upon_value]
  go_wp2
  go_ret
  exact ⟨rfl, rfl⟩
set_option maxHeartbeats 400000 in
theorem hexIndex (b : Nat) (hb : b < 256) (w : World) :
    Calls Tryd.prog 23 #[.string ⟨#[48, 49, 50, 51, 52, 53, 54, 55, 56, 57, 97, 98, 99, 100, 101, 102]⟩, .int .u8 b] w fun e w' => e = .returned (.int .i64 (fh b)) ∧ w = w' := by
  have HI := hide (index_hex b hb)
  go_enter Tryd.func23, Tryd.ntmps23
  go_wp2_with fail
  refine (slIndexByte _ _ _).mono ?_
  rintro e w' ⟨rfl, rfl⟩
  go_wp2
  go_ret
  exact ⟨congrArg (fun x => Ending.returned (.int .i64 x)) HI.out, rfl⟩

set_option maxRecDepth 100000 in
set_option maxHeartbeats 1000000 in
theorem implUnhex_any (s : ByteArray) (w : World) (hs : s.size ≤ 1048576) :
    Calls Tryd.prog 13 #[.string s] w fun e w' => (∃ r ok, e = .returned (.tuple #[.string r, .bool ok]) ∧ UX s r ok) ∧ Below w.heap.size w w' := by
  by_cases hodd : s.size % 2 = 0
  · have ho : ((s.size : Int) % 2 != 0) = false := by simp; omega
    have HO := hide hodd
    obtain ⟨m, hm⟩ : ∃ m, s.size = 2 * m := ⟨s.size / 2, by omega⟩
    have hm1 : s.size ≤ 2 * m := by omega
    have hm2 : 2 * m ≤ s.size := by omega
    obtain ⟨i0, hi, hz0, hz1, hz2⟩ := info_parts Tryd.info5
    obtain ⟨w1, hmk0, hown, hgrow⟩ := run_make_full (P := Tryd.prog) w w.heap.size 22 5 i0 (.int .u8 0) 1 Tryd.underlying22 hi hz0 hz1 .i64 .i64 m (by rw [hz2]; omega) (by unfold maxLen; omega) (Nat.le_refl _)
    have hmk : (Instr.makeSlice 22 (.int .i64 ((s.size : Int) / 2)) (.int .i64 ((s.size : Int) / 2))).run Tryd.prog w = .ok (.slice (some ⟨w.heap.size, 0, none⟩) m m) w1 := by
      have e : (s.size : Int) / 2 = (m : Int) := by omega
      rw [e]; exact hmk0
    have hB1 : Below w.heap.size w w1 := (Below.refl _ _).grown hgrow (Nat.le_refl _) (by intro k h; cases h)
    have HR : Hid (w1.heap[w.heap.size]? = some (.cells (rowOf m (uo s 0)).toArray 5 (0, 0))) := hide (by rw [made_row hown]; rw [show uo s 0 = [] from rfl, rowOf_nil])
    clear hown hgrow hi hz0 hz1 hz2 hmk0 hm hodd
    go_enter Tryd.func13, Tryd.ntmps13
    go_wp2
    go_loopw [5, 6] (fun a i wr => ∃ k : Nat, k ≤ m ∧ i = .int .i64 (2 * (k : Int)) ∧ a = .int .i64 ((uo s k).length) ∧ Hid (wr.heap[w.heap.size]? = some (.cells (rowOf m (uo s k)).toArray 5 (0, 0))) ∧ Hid (∀ j, j < 2 * k → 0 ≤ fh ((bl s).getD j 0)) ∧ Below w.heap.size w wr) (fun _ i _ => s.size - (intOf i).toNat)
    case atStart => exact ⟨0, by omega, rfl, rfl, HR, hide (by intro j hj; omega), hB1⟩
    case round =>
      clear HR hB1 hmk
      obtain ⟨k, hk, rfl, rfl, HR, HA, hB⟩ := hrel
      have HL := hide (uo_length s k)
      by_cases hlt : k < m
      · have hp := getD_pair s k (by omega)
        have HX : Hid (fh ((bl s).getD (2 * k) 0) = fh (s[2 * k]'(by omega)).toNat) := hide (by rw [hp.1])
        have HY : Hid (fh ((bl s).getD (2 * k + 1) 0) = fh (s[2 * k + 1]'(by omega)).toNat) := hide (by rw [hp.2])
        have hx := fh_bd (s[2 * k]'(by omega)).toNat
        have hy := fh_bd (s[2 * k + 1]'(by omega)).toNat
        have hc1 := UInt8.toNat_lt (s[2 * k]'(by omega))
        have hc2 := UInt8.toNat_lt (s[2 * k + 1]'(by omega))
        have HS := hide (uo_succ s k)
        have hl2 : (uo s k).length + 1 ≤ m := by rw [HL.out]; omega
        clear hp
        by_cases hxn : fh (s[2 * k]'(by omega)).toNat < 0
        · go_wp2_with fail
          refine (hexIndex (s[2 * k]'(by omega)).toNat hc1 _).mono ?_
          rintro e w' ⟨rfl, rfl⟩
          go_wp2_with fail
          refine (hexIndex (s[2 * k + 1]'(by omega)).toNat hc2 _).mono ?_
          rintro e w' ⟨rfl, rfl⟩
          generalize fh (s[2 * k]'(by omega)).toNat = x at *
          generalize fh (s[2 * k + 1]'(by omega)).toNat = y at *
          go_wp2
          go_ret2
          exact ⟨⟨_, _, rfl, Or.inl ⟨rfl, rfl, fun h => by have := h.2 (2 * k) (by omega); rw [HX.out] at this; omega⟩⟩, hB⟩
        · by_cases hyn : fh (s[2 * k + 1]'(by omega)).toNat < 0
          · go_wp2_with fail
            refine (hexIndex (s[2 * k]'(by omega)).toNat hc1 _).mono ?_
            rintro e w' ⟨rfl, rfl⟩
            go_wp2_with fail
            refine (hexIndex (s[2 * k + 1]'(by omega)).toNat hc2 _).mono ?_
            rintro e w' ⟨rfl, rfl⟩
            generalize fh (s[2 * k]'(by omega)).toNat = x at *
            generalize fh (s[2 * k + 1]'(by omega)).toNat = y at *
            go_wp2
            go_ret2
            exact ⟨⟨_, _, rfl, Or.inl ⟨rfl, rfl, fun h => by have := h.2 (2 * k + 1) (by omega); rw [HY.out] at this; omega⟩⟩, hB⟩
          · have e16 := or16 _ _ (show 0 ≤ fh (s[2 * k]'(by omega)).toNat by omega) (by omega) (show 0 ≤ fh (s[2 * k + 1]'(by omega)).toNat by omega) (by omega)
            go_wp2_with fail
            refine (hexIndex (s[2 * k]'(by omega)).toNat hc1 _).mono ?_
            rintro e w' ⟨rfl, rfl⟩
            go_wp2_with fail
            refine (hexIndex (s[2 * k + 1]'(by omega)).toNat hc2 _).mono ?_
            rintro e w' ⟨rfl, rfl⟩
            generalize fh (s[2 * k]'(by omega)).toNat = x at *
            generalize fh (s[2 * k + 1]'(by omega)).toNat = y at *
            go_wp2_with fail
            refine (put1 w.heap.size m w.heap.size (uo s k) (16 * x + y) w wr hl2 (by omega) HR hB hB.size (Nat.le_refl _)).mono ?_
            rintro e w2 ⟨rfl, HR2, hB2⟩
            have HR3 : Hid (w2.heap[w.heap.size]? = some (.cells (rowOf m (uo s (k + 1))).toArray 5 (0, 0))) := hide (by rw [HS.out, HX.out, HY.out]; exact HR2.out)
            have HL3 : Hid ((((uo s k).length : Nat) : Int) + 1 = ((uo s (k + 1)).length : Nat)) := hide (by rw [HS.out]; simp)
            clear HR HR2 hB e16 HS
            go_wp2
            go_roundw
            case rel => exact ⟨k + 1, by omega, by go_num, val_int HL3.out, HR3, hide (by
              intro j hj
              by_cases h1 : j < 2 * k
              · exact HA.out j h1
              · by_cases h2 : j = 2 * k
                · rw [h2, HX.out]; omega
                · obtain rfl : j = 2 * k + 1 := by omega
                  rw [HY.out]; omega), hB2⟩
            case measure => simp [intOf]; omega
      · obtain rfl : k = m := by omega
        have HU : Hid (UX s (strOfNums (uo s k)) true) := hide (Or.inr ⟨rfl, by rw [show s.size / 2 = k from by omega], HO.out, fun j hj => HA.out j (by omega)⟩)
        have hcv : (convert 22 9 (.slice (some ⟨w.heap.size, 0, none⟩) k k)).run Tryd.prog wr = .ok (.string (strOfNums (uo s k))) wr := cv_pre HR.out HL.out
        clear HR HO
        go_wp2
        go_ret2
        exact ⟨⟨_, _, rfl, HU.out⟩, hB⟩
  · have ho : ((s.size : Int) % 2 != 0) = true := by simp; omega
    have HN : Hid (¬ AllHex s) := hide (by rintro ⟨h, _⟩; omega)
    clear hodd
    go_enter Tryd.func13, Tryd.ntmps13
    go_wp2
    go_ret2
    exact ⟨⟨_, _, rfl, Or.inl ⟨rfl, rfl, HN.out⟩⟩, Below.refl _ _⟩

end Go.Proofs.YtelfhodaahpggacDoor
