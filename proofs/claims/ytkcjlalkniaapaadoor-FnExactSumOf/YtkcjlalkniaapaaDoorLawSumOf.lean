/-
  The walk of the exact law of SumOf.
-/
import Derived.Test.YtkcjlalkniaapaaDoorSumOfI
import Derived.Test.YtkcjlalkniaapaaDoorRecSlice
namespace Go.Proofs.YtkcjlalkniaapaaDoor
open Go.RowKit
open Plain

set_option maxRecDepth 100000 in
set_option maxHeartbeats 4000000 in
theorem lawSumOf_walk (w : World) (ht : STab w) (a : Option Addr) (n cap : Nat) (fs : List RecV) (hr : recSh.Row w a n fs) (hf : RFits fs) (hn : n ≤ maxLen) :
    Calls Tryd.prog 8 #[.slice a n cap] w fun e w' => e = .returned (.bool true) ∧ Below w.heap.size w w' := by
  have HZ := hide (szRecS_any w a n cap fs hr hf hn 1048576 (by omega) (by omega))
  by_cases hc : ((n + szRs fs : Nat) : Int) ≤ 1048576
  · have hn1 : n ≤ 1048576 := by omega
    rw [lessR_yes hc] at HZ
    obtain ⟨L, hL⟩ : ∃ L : Int, (1048576 : Int) - ((n + szRs fs : Nat) : Int) = L := ⟨_, rfl⟩
    rw [hL] at HZ
    have hL0 : decide (L < 0) = false := by simp; omega
    have HR := hide hr
    have HV : Hid (∀ i, (h : i < fs.length) → (fs[i]).val.size ≤ maxLen) := hide (fun i h => (hf i h).2)
    have HT := hide ht
    clear hL hc hr hf ht hn
    go_enter Tryd.func8, Tryd.ntmps8
    go_wp2_with fail
    refine HZ.out.mono ?_
    rintro e w1 ⟨rfl, hb1⟩
    have HB1 := hide hb1
    clear hb1 HZ
    go_wp2_with fail
    refine (toRecS_any w1 a n cap fs (HR.out.later HB1.out) hn1).mono ?_
    rintro e w2 ⟨rfl, ho2, hb2⟩
    have HB2 := hide (HB1.out.trans (hb2.mono HB1.out.size))
    have HO2 := hide ho2
    generalize w1.heap.size = g2 at *
    clear hb2 ho2 HB1
    go_wp2_with fail
    refine (specSumOf_any w2 _ n n fs HO2.out.row hn1 HV.out).mono ?_
    rintro e w3 ⟨rfl, hb3⟩
    have HB3 := hide (HB2.out.trans (hb3.mono HB2.out.size))
    clear hb3 HB2 HO2
    go_wp2_with fail
    refine (toRecS_any w3 a n cap fs (HR.out.later HB3.out) hn1).mono ?_
    rintro e w4 ⟨rfl, ho4, hb4⟩
    have HB4 := hide (HB3.out.trans (hb4.mono HB3.out.size))
    have HO4 := hide ho4
    generalize w3.heap.size = g4 at *
    clear hb4 ho4 HB3
    go_wp2_with fail
    refine (implSumOf_any w4 (HT.out.later HB4.out) _ n n fs HO4.out.row hn1).mono ?_
    rintro e w5 ⟨rfl, hb5⟩
    have HB5 := hide (HB4.out.trans (hb5.mono HB4.out.size))
    have HR5 := hide (HO4.out.row.later hb5)
    clear hb5 HB4 HO4
    generalize crcN (cat fs) = c at *
    go_wp2_with fail
    refine (toRecS_any w5 a n cap fs (HR.out.later HB5.out) hn1).mono ?_
    rintro e w6 ⟨rfl, ho6, hb6⟩
    have HB6 := hide (HB5.out.trans (hb6.mono HB5.out.size))
    have HR6 := hide (HR5.out.later hb6)
    have HO6 := hide ho6
    generalize w5.heap.size = g6 at *
    clear hb6 ho6 HB5 HR5
    go_wp2_with fail
    refine (eqRecS_same w6 _ _ n n n fs HR6.out HO6.out.row hn1).mono ?_
    rintro e w7 ⟨rfl, hb7⟩
    have HB7 := hide (HB6.out.trans (hb7.mono HB6.out.size))
    clear hb7 HB6 HR6 HO6
    go_wp2
    go_ret
    exact ⟨rfl, HB7.out⟩
  · rw [lessR_no (by omega)] at HZ
    clear hc hr hf ht
    go_enter Tryd.func8, Tryd.ntmps8
    go_wp2_with fail
    refine HZ.out.mono ?_
    rintro e w1 ⟨rfl, hb1⟩
    have HB1 := hide hb1
    clear hb1 HZ
    go_wp2
    go_ret
    exact ⟨rfl, HB1.out⟩

end Go.Proofs.YtkcjlalkniaapaaDoor
