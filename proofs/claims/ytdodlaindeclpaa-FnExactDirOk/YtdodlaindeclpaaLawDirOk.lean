/-
  The walk of the exact law of DirOk.
-/
import Derived.Test.YtdodlaindeclpaaEntS
import Derived.Test.YtdodlaindeclpaaDirOkI
namespace Go.Proofs.Ytdodlaindeclpaa
open Go.RowKit
open Plain

set_option maxRecDepth 100000 in
set_option maxHeartbeats 4000000 in
theorem lawDirOk_walk (w : World) (a : Option Addr) (n cap : Nat) (xs : List EntV) (hr : entSh.Row w a n xs) (hf : EFits xs) (hl : n ≤ maxLen) :
    Calls Try.prog 4 #[.slice a n cap] w fun e w' => e = .returned (.bool true) ∧ Below w.heap.size w w' := by
  have HSZ := hide (szEntS_any w a n cap xs hr hf hl 1048576 (by omega) (by omega))
  have HR := hide hr
  clear hr hf hl
  go_enter Try.func4, Try.ntmps4
  go_wp2_with fail
  refine HSZ.out.mono ?_
  rintro e w1 ⟨rfl, hb1⟩
  have HB1 := hide hb1
  clear hb1 HSZ
  by_cases hsz : ((n + szEs xs : Nat) : Int) ≤ 1048576
  · rw [lessR_yes hsz]
    have hn : n ≤ 1048576 := by omega
    have d0 : decide ((1048576 : Int) - ((n + szEs xs : Nat) : Int) < 0) = false := by simp; omega
    have HTO : Hid (∀ W, Below w.heap.size w W → _) := hide (fun W (hW : Below w.heap.size w W) => toEntS_any W a n cap xs (HR.out.later hW) hn)
    generalize (1048576 : Int) - ((n + szEs xs : Nat) : Int) = L at *
    clear hsz
    go_wp2_with fail
    refine (HTO.out w1 HB1.out).mono ?_
    rintro e w2 ⟨rfl, ho2, hb2⟩
    have HB2 := hide (HB1.out.trans (hb2.mono HB1.out.size))
    have HSP := hide (specDirOk_any w2 _ n n xs ho2.row hn)
    clear ho2 hb2 HB1
    go_wp2_with fail
    refine HSP.out.mono ?_
    rintro e w3 ⟨rfl, hb3⟩
    have HB3 := hide (HB2.out.trans (hb3.mono HB2.out.size))
    clear hb3 HSP HB2
    go_wp2_with fail
    refine (HTO.out w3 HB3.out).mono ?_
    rintro e w4 ⟨rfl, ho4, hb4⟩
    have HB4 := hide (HB3.out.trans (hb4.mono HB3.out.size))
    have HO4 := hide ho4.row
    have HIM := hide (implDirOk_any w4 _ n n xs ho4.row hn)
    generalize w3.heap.size = g3 at *
    clear ho4 hb4 HB3
    go_wp2_with fail
    refine HIM.out.mono ?_
    rintro e w5 ⟨rfl, hb5⟩
    have HB5 := hide (HB4.out.trans (hb5.mono HB4.out.size))
    have HO5 := hide (HO4.out.later hb5)
    clear hb5 HIM HB4 HO4
    generalize dirOk xs = v at *
    have d1 : (v != v) = false := by simp
    go_wp2_with fail
    refine (HTO.out w5 HB5.out).mono ?_
    rintro e w6 ⟨rfl, ho6, hb6⟩
    have HB6 := hide (HB5.out.trans (hb6.mono HB5.out.size))
    have HEQ := hide (eqEntS_same w6 _ _ n n n xs (HO5.out.later hb6) ho6.row hn)
    clear ho6 hb6 HB5 HO5
    go_wp2_with fail
    refine HEQ.out.mono ?_
    rintro e w7 ⟨rfl, hb7⟩
    have HB7 := hide (HB6.out.trans (hb7.mono HB6.out.size))
    clear hb7 HB6 HEQ
    go_wp2
    go_ret
    exact ⟨rfl, HB7.out⟩
  · rw [lessR_no (by omega)]
    go_wp2
    go_ret
    exact ⟨rfl, HB1.out⟩

end Go.Proofs.Ytdodlaindeclpaa
