/-
  The walk of the exact law of SameDir.
-/
import Derived.Test.YtnckdfidehbcaaaDirSame
namespace Go.Proofs.Ytnckdfidehbcaaa
open Go.RowKit
open Plain

set_option maxRecDepth 100000 in
set_option maxHeartbeats 4000000 in
theorem lawSameDir_walk (w : World) (a : Option Addr) (n cap : Nat) (xs : List EntV) (hr : entSh.Row w a n xs) (hf : EFits xs) (hl : n ≤ maxLen) (b : Option Addr) (m capb : Nat) (ys : List EntV) (hrb : entSh.Row w b m ys) (hfb : EFits ys) (hlb : m ≤ maxLen) :
    Calls Try.prog 5 #[.slice a n cap, .slice b m capb] w fun e w' => e = .returned (.bool true) ∧ Below w.heap.size w w' := by
  have HSZ := hide (szEntS_any w a n cap xs hr hf hl 1048576 (by omega) (by omega))
  have HR := hide hr
  have HRB := hide hrb
  have HSB := hide (fun W (hW : Below w.heap.size w W) l h0 h1 => szEntS_any W b m capb ys (hrb.later hW) hfb hlb l h0 h1)
  clear hr hf hl hrb hfb hlb
  go_enter Try.func5, Try.ntmps5
  go_wp2_with fail
  refine HSZ.out.mono ?_
  rintro e w1 ⟨rfl, hb1⟩
  have HB1 := hide hb1
  clear hb1 HSZ
  by_cases hsz : ((n + szEs xs : Nat) : Int) ≤ 1048576
  · rw [lessR_yes hsz]
    have hn : n ≤ 1048576 := by omega
    have d0 : decide ((1048576 : Int) - ((n + szEs xs : Nat) : Int) < 0) = false := by simp; omega
    have hL0 : (0 : Int) ≤ (1048576 : Int) - ((n + szEs xs : Nat) : Int) := by omega
    have hL1 : (1048576 : Int) - ((n + szEs xs : Nat) : Int) ≤ 1048576 := by omega
    have HTO : Hid (∀ W, Below w.heap.size w W → _) := hide (fun W (hW : Below w.heap.size w W) => toEntS_any W a n cap xs (HR.out.later hW) hn)
    generalize (1048576 : Int) - ((n + szEs xs : Nat) : Int) = L at *
    have HS2 := hide (HSB.out w1 HB1.out L hL0 hL1)
    clear hsz HSB
    go_wp2_with fail
    refine HS2.out.mono ?_
    rintro e w2 ⟨rfl, hb2⟩
    have HB2 := hide (HB1.out.trans (hb2.mono HB1.out.size))
    clear hb2 HS2 HB1
    by_cases hsz2 : ((m + szEs ys : Nat) : Int) ≤ L
    · rw [lessR_yes hsz2]
      have hm : m ≤ 1048576 := by omega
      have d1 : decide (L - ((m + szEs ys : Nat) : Int) < 0) = false := by simp; omega
      have HTB : Hid (∀ W, Below w.heap.size w W → _) := hide (fun W (hW : Below w.heap.size w W) => toEntS_any W b m capb ys (HRB.out.later hW) hm)
      generalize L - ((m + szEs ys : Nat) : Int) = L' at *
      clear hsz2
      go_wp2_with fail
      refine (HTO.out w2 HB2.out).mono ?_
      rintro e w3 ⟨rfl, ho3, hb3⟩
      have HB3 := hide (HB2.out.trans (hb3.mono HB2.out.size))
      have HR3 := hide ho3.row
      clear ho3 hb3 HB2
      go_wp2_with fail
      refine (HTB.out w3 HB3.out).mono ?_
      rintro e w4 ⟨rfl, ho4, hb4⟩
      have HB4 := hide (HB3.out.trans (hb4.mono HB3.out.size))
      have HSP := hide (specSameDir_any w4 _ _ n m n m xs ys (HR3.out.later hb4) ho4.row (by omega) (by omega))
      clear ho4 hb4 HB3 HR3
      go_wp2_with fail
      refine HSP.out.mono ?_
      rintro e w5 ⟨rfl, hb5⟩
      have HB5 := hide (HB4.out.trans (hb5.mono HB4.out.size))
      clear hb5 HSP HB4
      go_wp2_with fail
      refine (HTO.out w5 HB5.out).mono ?_
      rintro e w6 ⟨rfl, ho6, hb6⟩
      have HB6 := hide (HB5.out.trans (hb6.mono HB5.out.size))
      have HR6 := hide ho6.row
      clear ho6 hb6 HB5
      go_wp2_with fail
      refine (HTB.out w6 HB6.out).mono ?_
      rintro e w7 ⟨rfl, ho7, hb7⟩
      have HB7 := hide (HB6.out.trans (hb7.mono HB6.out.size))
      have HR7 := hide (HR6.out.later hb7)
      have HQ7 := hide ho7.row
      have HIM := hide (implSameDir_any w7 _ _ n m n m xs ys HR7.out ho7.row (by omega) (by omega))
      clear ho7 hb7 HB6 HR6
      go_wp2_with fail
      refine HIM.out.mono ?_
      rintro e w8 ⟨rfl, hb8⟩
      have HB8 := hide (HB7.out.trans (hb8.mono HB7.out.size))
      have HR8 := hide (HR7.out.later hb8)
      have HQ8 := hide (HQ7.out.later hb8)
      clear hb8 HIM HB7 HR7 HQ7
      generalize sameE xs ys = v at *
      have dv : (v != v) = false := by simp
      go_wp2_with fail
      refine (HTO.out w8 HB8.out).mono ?_
      rintro e w9 ⟨rfl, ho9, hb9⟩
      have HB9 := hide (HB8.out.trans (hb9.mono HB8.out.size))
      have HQ9 := hide (HQ8.out.later hb9)
      have HEQ := hide (eqEntS_same w9 _ _ n n n xs (HR8.out.later hb9) ho9.row (by omega))
      clear ho9 hb9 HB8 HR8 HQ8
      go_wp2_with fail
      refine HEQ.out.mono ?_
      rintro e w10 ⟨rfl, hb10⟩
      have HB10 := hide (HB9.out.trans (hb10.mono HB9.out.size))
      have HQ10 := hide (HQ9.out.later hb10)
      clear hb10 HB9 HEQ HQ9
      go_wp2_with fail
      refine (HTB.out w10 HB10.out).mono ?_
      rintro e w11 ⟨rfl, ho11, hb11⟩
      have HB11 := hide (HB10.out.trans (hb11.mono HB10.out.size))
      have HEQ := hide (eqEntS_same w11 _ _ m m m ys (HQ10.out.later hb11) ho11.row (by omega))
      clear ho11 hb11 HB10 HQ10
      go_wp2_with fail
      refine HEQ.out.mono ?_
      rintro e w12 ⟨rfl, hb12⟩
      have HB12 := hide (HB11.out.trans (hb12.mono HB11.out.size))
      clear hb12 HB11 HEQ
      go_wp2
      go_ret
      exact ⟨rfl, HB12.out⟩
    · rw [lessR_no (by omega)]
      go_wp2
      go_ret
      exact ⟨rfl, HB2.out⟩
  · rw [lessR_no (by omega)]
    go_wp2
    go_ret
    exact ⟨rfl, HB1.out⟩

end Go.Proofs.Ytnckdfidehbcaaa
