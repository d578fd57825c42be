/-
  spec.SegName and spec.HintName.
-/
import Derived.Test.YthnealhaleccpabDoorNamesPlain
import Derived.Test.YthnealhaleccpabDoorDecSpec
import Derived.Test.YthnealhaleccpabDoorIn
import Derived.Test.YthnealhaleccpabDoorRecOkI
namespace Go.Proofs.YthnealhaleccpabDoor
open Go.RowKit
open Plain

theorem itoaS_len (n : Int) (h : 1 ≤ n ∧ n ≤ 100000) : (itoaS n).size ≤ 30 := by
  have h2 := dd_len20 n.natAbs (by omega)
  have e : (itoaS n).size = (Lib.itoa n).length := by unfold itoaS; simp [ByteArray.size]
  rw [e]
  unfold Lib.itoa
  rw [if_neg (by omega), ← dd_pos _ (by omega), show n.toNat = n.natAbs from by omega]
  omega
theorem segS_size (n : Int) : (segS n).size ≤ 33 := by
  by_cases h : 1 ≤ n ∧ n ≤ 100000
  · rw [segS_in n h, ByteArray.size_append]
    have := itoaS_len n h
    have e : segP.size = 3 := rfl
    omega
  · unfold segS; rw [if_neg h]; exact Nat.zero_le _
theorem hintS_size (n : Int) : (hintS n).size ≤ 34 := by
  by_cases h : 1 ≤ n ∧ n ≤ 100000
  · rw [hintS_in n h, ByteArray.size_append]
    have := itoaS_len n h
    have e : hintP.size = 4 := rfl
    omega
  · unfold hintS; rw [if_neg h]; exact Nat.zero_le _

set_option maxRecDepth 100000 in
set_option maxHeartbeats 1000000 in
theorem specSeg_any (n : Int) : Ans 21 #[.int .i64 n] (.string (segS n)) := by
  intro w
  have HI := hide (in_any n 1 100000 w)
  by_cases h : 1 ≤ n ∧ n ≤ 100000
  · have hd : decide (1 ≤ n ∧ n ≤ 100000) = true := by simpa using h
    rw [hd] at HI
    have HD := hide (specDec_any n w (by omega) (by omega))
    have HS : Hid (segS n = segP ++ itoaS n) := hide (segS_in n h)
    have hz := itoaS_len n h
    have hz2 : (ByteArray.mk #[115, 101, 103]).size = 3 := rfl
    generalize itoaS n = t at *
    have z1 : ¬ 9223372036854775807 < (ByteArray.mk #[115, 101, 103]).size + t.size := by omega
    clear h hd hz hz2
    go_enter Tryd.func21, Tryd.ntmps21
    go_wp2_with fail
    refine HI.out.mono ?_
    rintro e w1 ⟨rfl, rfl⟩
    go_wp2_with fail
    refine HD.out.mono ?_
    rintro e w2 ⟨rfl, hb⟩
    go_wp2
    go_ret
    exact ⟨by rw [HS.out]; rfl, hb⟩
  · have hd : decide (1 ≤ n ∧ n ≤ 100000) = false := by simpa using h
    rw [hd] at HI
    have HS : Hid (segS n = ⟨#[]⟩) := hide (if_neg h)
    clear h hd
    go_enter Tryd.func21, Tryd.ntmps21
    go_wp2_with fail
    refine HI.out.mono ?_
    rintro e w1 ⟨rfl, rfl⟩
    go_wp2
    go_ret
    exact ⟨by rw [HS.out]; rfl, Below.refl _ _⟩

set_option maxRecDepth 100000 in
set_option maxHeartbeats 1000000 in
theorem specHint_any (n : Int) : Ans 22 #[.int .i64 n] (.string (hintS n)) := by
  intro w
  have HI := hide (in_any n 1 100000 w)
  by_cases h : 1 ≤ n ∧ n ≤ 100000
  · have hd : decide (1 ≤ n ∧ n ≤ 100000) = true := by simpa using h
    rw [hd] at HI
    have HD := hide (specDec_any n w (by omega) (by omega))
    have HS : Hid (hintS n = hintP ++ itoaS n) := hide (hintS_in n h)
    have hz := itoaS_len n h
    have hz2 : (ByteArray.mk #[104, 105, 110, 116]).size = 4 := rfl
    generalize itoaS n = t at *
    have z1 : ¬ 9223372036854775807 < (ByteArray.mk #[104, 105, 110, 116]).size + t.size := by omega
    clear h hd hz hz2
    go_enter Tryd.func22, Tryd.ntmps22
    go_wp2_with fail
    refine HI.out.mono ?_
    rintro e w1 ⟨rfl, rfl⟩
    go_wp2_with fail
    refine HD.out.mono ?_
    rintro e w2 ⟨rfl, hb⟩
    go_wp2
    go_ret
    exact ⟨by rw [HS.out]; rfl, hb⟩
  · have hd : decide (1 ≤ n ∧ n ≤ 100000) = false := by simpa using h
    rw [hd] at HI
    have HS : Hid (hintS n = ⟨#[]⟩) := hide (if_neg h)
    clear h hd
    go_enter Tryd.func22, Tryd.ntmps22
    go_wp2_with fail
    refine HI.out.mono ?_
    rintro e w1 ⟨rfl, rfl⟩
    go_wp2
    go_ret
    exact ⟨by rw [HS.out]; rfl, Below.refl _ _⟩

end Go.Proofs.YthnealhaleccpabDoor
