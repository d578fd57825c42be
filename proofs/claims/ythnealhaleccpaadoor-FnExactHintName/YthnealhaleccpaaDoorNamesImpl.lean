/-
  impl.SegName and impl.HintName, where the library's table of powers of ten is as its text lays it.
-/
import Derived.Test.YthnealhaleccpaaDoorNamesPlain
import Derived.Test.YthnealhaleccpaaDoorNamesSpec
import Derived.Test.YthnealhaleccpaaDoorDecImpl
namespace Go.Proofs.YthnealhaleccpaaDoor
open Go.RowKit
open Plain

set_option maxHeartbeats 400000 in
theorem idOk_any (n : Int) (w : World) : Calls Tryd.prog 54 #[.int .i64 n] w fun e w' => e = .returned (.bool (decide (1 ≤ n ∧ n ≤ 100000))) ∧ w = w' := by
  by_cases h1 : 1 ≤ n
  · by_cases h2 : n ≤ 100000
    all_goals
      go_enter Tryd.func54, Tryd.ntmps54
      go_wp2
      go_ret
      exact ⟨by simp [h1, h2], rfl⟩
  · have h3 : decide (1 ≤ n) = false := by simpa using h1
    go_enter Tryd.func54, Tryd.ntmps54
    go_wp2
    go_ret
    exact ⟨by first | (simp; done) | (simp; omega), rfl⟩

set_option maxRecDepth 100000 in
set_option maxHeartbeats 1000000 in
theorem nameOf_any (p : ByteArray) (hp : p.size ≤ 4) (n : Int) (w : World) (htab : Tab w) :
    Calls Tryd.prog 39 #[.string p, .int .i64 n] w fun e w' => e = .returned (.string (if 1 ≤ n ∧ n ≤ 100000 then p ++ itoaS n else ⟨#[]⟩)) ∧ Below w.heap.size w w' := by
  have HI := hide (idOk_any n w)
  by_cases h : 1 ≤ n ∧ n ≤ 100000
  · have hd : decide (1 ≤ n ∧ n ≤ 100000) = true := by simpa using h
    rw [hd] at HI
    rw [if_pos h]
    have HD := hide (implDec_any n w (by omega) (by omega) htab)
    have hz := itoaS_len n h
    generalize itoaS n = t at *
    have z1 : ¬ 9223372036854775807 < p.size + t.size := by omega
    clear h hd hz hp htab
    go_enter Tryd.func39, Tryd.ntmps39
    go_wp2_with fail
    refine HI.out.mono ?_
    rintro e w1 ⟨rfl, rfl⟩
    go_wp2_with fail
    refine HD.out.mono ?_
    rintro e w2 ⟨rfl, hb⟩
    go_wp2
    go_ret
    exact ⟨rfl, hb⟩
  · have hd : decide (1 ≤ n ∧ n ≤ 100000) = false := by simpa using h
    rw [hd] at HI
    rw [if_neg h]
    clear h hd htab
    go_enter Tryd.func39, Tryd.ntmps39
    go_wp2_with fail
    refine HI.out.mono ?_
    rintro e w1 ⟨rfl, rfl⟩
    go_wp2
    go_ret
    exact ⟨rfl, Below.refl _ _⟩

set_option maxRecDepth 100000 in
set_option maxHeartbeats 1000000 in
theorem implSeg_any (n : Int) (w : World) (htab : Tab w) : Calls Tryd.prog 17 #[.int .i64 n] w fun e w' => e = .returned (.string (segS n)) ∧ Below w.heap.size w w' := by
  have HN := hide (nameOf_any ⟨#[115, 101, 103]⟩ (by decide) n w htab)
  have HS : Hid (segS n = if 1 ≤ n ∧ n ≤ 100000 then ⟨#[115, 101, 103]⟩ ++ itoaS n else ⟨#[]⟩) := hide rfl
  clear htab
  generalize (if 1 ≤ n ∧ n ≤ 100000 then (⟨#[115, 101, 103]⟩ : ByteArray) ++ itoaS n else ⟨#[]⟩) = t at *
  go_enter Tryd.func17, Tryd.ntmps17
  go_wp2_with fail
  refine HN.out.mono ?_
  rintro e w1 ⟨rfl, hb⟩
  go_wp2
  go_ret
  exact ⟨by rw [HS.out]; rfl, hb⟩

set_option maxRecDepth 100000 in
set_option maxHeartbeats 1000000 in
theorem implHint_any (n : Int) (w : World) (htab : Tab w) : Calls Tryd.prog 19 #[.int .i64 n] w fun e w' => e = .returned (.string (hintS n)) ∧ Below w.heap.size w w' := by
  have HN := hide (nameOf_any ⟨#[104, 105, 110, 116]⟩ (by decide) n w htab)
  have HS : Hid (hintS n = if 1 ≤ n ∧ n ≤ 100000 then ⟨#[104, 105, 110, 116]⟩ ++ itoaS n else ⟨#[]⟩) := hide rfl
  clear htab
  generalize (if 1 ≤ n ∧ n ≤ 100000 then (⟨#[104, 105, 110, 116]⟩ : ByteArray) ++ itoaS n else ⟨#[]⟩) = t at *
  go_enter Tryd.func19, Tryd.ntmps19
  go_wp2_with fail
  refine HN.out.mono ?_
  rintro e w1 ⟨rfl, hb⟩
  go_wp2
  go_ret
  exact ⟨by rw [HS.out]; rfl, hb⟩

end Go.Proofs.YthnealhaleccpaaDoor
