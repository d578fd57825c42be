/-
  The walk of the exact law of ReadRec: spec's and impl's function answer the same record and the same word.
-/
import Derived.Test.YtlppgbfpbkpocaaReadRecS
import Derived.Test.YtlppgbfpbkpocaaLawRecBase
namespace Go.Proofs.Ytlppgbfpbkpocaa
open Go.RowKit
open Plain

theorem RecAt.newIn {w W : World} (hb : Below w.heap.size w W) (k b : Int) (key val : ByteArray) (c s : Int) : RecAt w W.heap.size k b key val c s (W.alloc (.cells #[.int .i64 k, .int .i64 b, .string key, .string val, .int .i64 c, .int .i64 s] 25)) :=
  ⟨heap_alloc_new W _, hb.alloc hb.size _⟩

set_option maxRecDepth 100000 in
set_option maxHeartbeats 4000000 in
theorem lawRead_same (a0 : ByteArray) (hb : a0.size ≤ 1048576) (w : World) (k b : Int) (key val : ByteArray) (c s : Int) (ok : Bool)
    (HS : Hid (Ans 20 #[.string a0] (.tuple #[.agg #[.int .i64 k, .int .i64 b, .string key, .string val, .int .i64 c, .int .i64 s], .bool ok])))
    (HI : Hid (Ans 11 #[.string a0] (.tuple #[.agg #[.int .i64 k, .int .i64 b, .string key, .string val, .int .i64 c, .int .i64 s], .bool ok]))) :
    Calls Try.prog 7 #[.string a0] w fun e w' => e = .returned (.bool true) ∧ Below w.heap.size w w' := by
  have t0 : decide ((1048576 : Int) < (a0.size : Int)) = false := by simp; omega
  clear hb
  have HE := hide (eqRec_any k b key val c s k b key val c s)
  have HY : Hid (eqN k b key val c s k b key val c s = true) := hide (eqN_yes ⟨rfl, rfl, rfl, rfl, rfl, rfl⟩)
  rw [HY.out] at HE
  clear HY
  go_enter Try.func7, Try.ntmps7
  go_wp2_with fail
  refine (HS.out _).mono ?_
  rintro e w2 ⟨rfl, hb2⟩
  have HA2 := hide (RecAt.newIn hb2 k b key val c s)
  obtain ⟨A, hA⟩ : ∃ A, w2.heap.size = A := ⟨_, rfl⟩
  rw [hA] at HA2
  clear hb2
  go_wp2_with fail
  clear hA
  refine (HI.out _).mono ?_
  rintro e w3 ⟨rfl, hb3⟩
  have HA3 := hide (HA2.out.later hb3)
  clear hb3 HA2
  have HA4 := hide (HA3.out.later (al1 w3 (.cells #[.int .i64 k, .int .i64 b, .string key, .string val, .int .i64 c, .int .i64 s] 25)))
  have HB4 := hide (RecAt.newIn HA3.out.bel k b key val c s)
  obtain ⟨B, hB⟩ : ∃ B, w3.heap.size = B := ⟨_, rfl⟩
  rw [hB] at HB4
  obtain ⟨x0, x1, x2, x3, x4, x5, -⟩ := HA4.out.cells
  obtain ⟨y0, y1, y2, y3, y4, y5, -⟩ := HB4.out.cells
  go_wp2_with fail
  clear x0 x1 x2 x3 x4 x5 y0 y1 y2 y3 y4 y5 HB4 HA3 HI HS hB
  refine (HE.out _).mono ?_
  rintro e w5 ⟨rfl, hb5⟩
  have HB5 := hide (HA4.out.later hb5).bel
  clear HA4 hb5 HE
  cases ok
  all_goals
    go_wp2
    go_ret
    exact ⟨rfl, HB5.out⟩

theorem lawRead_walk (a0 : ByteArray) (w0 : a0.size ≤ maxLen) (w : World) :
    Calls Try.prog 7 #[.string a0] w fun e w' => e = .returned (.bool true) ∧ Below w.heap.size w w' := by
  by_cases hb : a0.size ≤ 1048576
  · obtain ⟨r, ok, h1, hS⟩ := specRead_any a0 hb
    obtain ⟨q, ok', h2, hI⟩ := implRead_any a0 hb
    obtain ⟨rfl, rfl⟩ := RR_one h1 h2
    exact lawRead_same a0 hb w _ _ _ _ _ _ _ (hide hS) (hide hI)
  · unfold maxLen at w0
    go_enter Try.func7, Try.ntmps7
    go_wp2
    go_ret
    exact ⟨rfl, Below.refl _ _⟩

end Go.Proofs.Ytlppgbfpbkpocaa
