/-
  The walk of the exact law of RecAt: spec's and impl's function answer the same record and the same word.
-/
import Derived.Test.YtkcjlalkniaapaaDoorRecAtI
import Derived.Test.YtkcjlalkniaapaaDoorLawRecBase
namespace Go.Proofs.YtkcjlalkniaapaaDoor
open Go.RowKit
open Plain

theorem RecAt.newIn {w W : World} (hb : Below w.heap.size w W) (k b : Int) (key val : ByteArray) (c s : Int) : RecAt w W.heap.size k b key val c s (W.alloc (.cells #[.int .i64 k, .int .i64 b, .string key, .string val, .int .i64 c, .int .i64 s] 33)) :=
  ⟨heap_alloc_new W _, hb.alloc hb.size _⟩

set_option maxRecDepth 100000 in
set_option maxHeartbeats 4000000 in
theorem lawRecAt_same (a0 : ByteArray) (hb : a0.size ≤ 1048576) (at' n : Int) (w : World) (A0 B0 : Addr) (HT : Hid (STab w)) (HR : Hid (ErrIn w A0 B0)) (k b : Int) (key val : ByteArray) (c s : Int) (ok : Bool)
    (HS : Hid (Ans 23 #[.string a0, .int .i64 at', .int .i64 n] (.tuple #[.agg #[.int .i64 k, .int .i64 b, .string key, .string val, .int .i64 c, .int .i64 s], .bool ok])))
    (HI : Hid (AnsE 17 #[.string a0, .int .i64 at', .int .i64 n] (.tuple #[.agg #[.int .i64 k, .int .i64 b, .string key, .string val, .int .i64 c, .int .i64 s], .bool ok]))) :
    Calls Tryd.prog 7 #[.string a0, .int .i64 at', .int .i64 n] w fun e w' => e = .returned (.bool true) ∧ Below w.heap.size w w' := by
  have t0 : decide ((1048576 : Int) < (a0.size : Int)) = false := by simp; omega
  clear hb
  have HE := hide (eqRec_any k b key val c s k b key val c s)
  have HY : Hid (eqN k b key val c s k b key val c s = true) := hide (eqN_yes ⟨rfl, rfl, rfl, rfl, rfl, rfl⟩)
  rw [HY.out] at HE
  clear HY
  go_enter Tryd.func7, Tryd.ntmps7
  go_wp2_with fail
  refine (HS.out _).mono ?_
  rintro e w2 ⟨rfl, hb2⟩
  have HA2 := hide (RecAt.newIn hb2 k b key val c s)
  have HT2 := hide (HT.out.later HA2.out.bel)
  have HR2 := hide (HR.out.later HA2.out.bel (Nat.le_refl _))
  clear HT HR
  obtain ⟨A, hA⟩ : ∃ A, w2.heap.size = A := ⟨_, rfl⟩
  rw [hA] at HA2
  clear hb2
  go_wp2_with fail
  clear hA
  refine (HI.out _ A0 B0 HT2.out HR2.out).mono ?_
  rintro e w3 ⟨rfl, hb3⟩
  have HA3 := hide (HA2.out.later hb3)
  clear hb3 HA2 HT2 HR2
  have HA4 := hide (HA3.out.later (al1 w3 (.cells #[.int .i64 k, .int .i64 b, .string key, .string val, .int .i64 c, .int .i64 s] 33)))
  have HB4 := hide (RecAt.newIn HA3.out.bel k b key val c s)
  obtain ⟨B, hB⟩ : ∃ B, w3.heap.size = B := ⟨_, rfl⟩
  rw [hB] at HB4
  obtain ⟨x0, x1, x2, x3, x4, x5, -⟩ := HA4.out.cells
  obtain ⟨y0, y1, y2, y3, y4, y5, -⟩ := HB4.out.cells
  go_wp2_with fail
  clear x0 x1 x2 x3 x4 x5 y0 y1 y2 y3 y4 y5 HB4 HA3 HI HS hB
  refine (HE.out _).mono ?_
  rintro e w5 ⟨rfl, hb5⟩
  have HB5 := hide (HA4.out.later hb5).bel
  clear HA4 hb5 HE
  cases ok
  all_goals
    go_wp2
    go_ret
    exact ⟨rfl, HB5.out⟩

theorem lawRecAt_walk (a0 : ByteArray) (w0 : a0.size ≤ maxLen) (at' n : Int) (w : World) (A0 B0 : Addr) (ht : STab w) (he : ErrIn w A0 B0) :
    Calls Tryd.prog 7 #[.string a0, .int .i64 at', .int .i64 n] w fun e w' => e = .returned (.bool true) ∧ Below w.heap.size w w' := by
  by_cases hb : a0.size ≤ 1048576
  · exact lawRecAt_same a0 hb at' n w A0 B0 (hide ht) (hide he) _ _ _ _ _ _ _ (hide (specRecAt_any a0 hb at' n)) (hide (implRecAt_any a0 hb at' n))
  · unfold maxLen at w0
    clear ht he
    go_enter Tryd.func7, Tryd.ntmps7
    go_wp2
    go_ret
    exact ⟨rfl, Below.refl _ _⟩

end Go.Proofs.YtkcjlalkniaapaaDoor
