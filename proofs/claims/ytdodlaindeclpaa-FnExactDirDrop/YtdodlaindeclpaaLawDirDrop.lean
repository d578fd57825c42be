/-
  The walk of the exact law of DirDrop.
-/
import Derived.Test.YtdodlaindeclpaaEntMark
import Derived.Test.YtdodlaindeclpaaDirDropS
import Derived.Test.YtdodlaindeclpaaDirDropI
import Derived.Test.YtdodlaindeclpaaRowApart
namespace Go.Proofs.Ytdodlaindeclpaa
open Go.RowKit
open Plain

set_option maxRecDepth 100000 in
set_option maxHeartbeats 8000000 in
theorem lawDirDrop_walk (w : World) (a : Option Addr) (n cap : Nat) (xs : List EntV) (hr : entSh.Row w a n xs) (hf : EFits xs) (hl : n ≤ maxLen) (key : ByteArray) (hk : key.size ≤ maxLen) :
    Calls Try.prog 7 #[.slice a n cap, .string key] w fun e w' => e = .returned (.bool true) ∧ Below w.heap.size w w' := by
  unfold maxLen at hk
  by_cases hks : key.size ≤ 1048576
  · have dk : decide ((1048576 : Int) < (key.size : Int)) = false := by simp; omega
    have HSZ := hide (szEntS_any w a n cap xs hr hf hl 1048576 (by omega) (by omega))
    have HR := hide hr
    have hlen := hr.len
    clear hr hf hl
    go_enter Try.func7, Try.ntmps7
    go_wp2_with fail
    refine HSZ.out.mono ?_
    rintro e w1 ⟨rfl, hb1⟩
    have HB1 := hide hb1
    clear hb1 HSZ
    by_cases hsz : ((n + szEs xs : Nat) : Int) ≤ 1048576
    · rw [lessR_yes hsz]
      have hn : n ≤ 1048576 := by omega
      have d0 : decide ((1048576 : Int) - ((n + szEs xs : Nat) : Int) < 0) = false := by simp; omega
      have HTO : Hid (∀ W, Below w.heap.size w W → _) := hide (fun W (hW : Below w.heap.size w W) => toEntS_any W a n cap xs (HR.out.later hW) hn)
      generalize (1048576 : Int) - ((n + szEs xs : Nat) : Int) = L at *
      obtain ⟨zs, hzs⟩ : ∃ zs, dropE xs key = zs := ⟨_, rfl⟩
      obtain ⟨m, hzm⟩ : ∃ m, zs.length = m := ⟨_, rfl⟩
      have HSPK : Hid (∀ W a' c', entSh.Row W a' n xs → Calls Try.prog 28 #[.slice a' n c', .string key] W fun e w' => (∃ a'' cap', e = .returned (.slice a'' m cap') ∧ entSh.Own 26 w' W.heap.size (.slice a'' m cap') zs) ∧ Below W.heap.size W w') := hide (fun W a' c' h => by
        refine (specDrop_any W a' n c' xs key h hn).mono ?_
        rintro e w' ⟨⟨a2, n2, c2, rfl, h2⟩, h3⟩
        obtain rfl : n2 = m := by rw [← hzm, ← hzs]; exact h2.len.symm
        exact ⟨⟨a2, c2, rfl, by rw [← hzs]; exact h2⟩, h3⟩)
      have HIMK : Hid (∀ W a' c', entSh.Row W a' n xs → Calls Try.prog 13 #[.slice a' n c', .string key] W fun e w' => (∃ a'' cap', e = .returned (.slice a'' m cap') ∧ entSh.Own 26 w' W.heap.size (.slice a'' m cap') zs) ∧ Below W.heap.size W w') := hide (fun W a' c' h => by
        refine (implDrop_any W a' n c' xs key h (by omega)).mono ?_
        rintro e w' ⟨⟨g, rfl, h2⟩, h3⟩
        rw [hzs, hzm] at h2 ⊢
        exact ⟨⟨_, _, rfl, h2⟩, h3⟩)
      have hml : m ≤ 1048577 := by have := dropE_len xs key; rw [hzs] at this; omega
      clear hsz hzs hlen hzm
      go_wp2_with fail
      refine (HTO.out w1 HB1.out).mono ?_
      rintro e w2 ⟨rfl, ho2, hb2⟩
      have HB2 := hide (HB1.out.trans (hb2.mono HB1.out.size))
      have HSP := hide (HSPK.out w2 _ n ho2.row)
      clear ho2 hb2 HB1 HSPK
      go_wp2_with fail
      refine HSP.out.mono ?_
      rintro e w3 ⟨⟨sa, sc, rfl, hs3⟩, hb3⟩
      have HB3 := hide (HB2.out.trans (hb3.mono HB2.out.size))
      have HS3 := hide hs3
      have hlo : w.heap.size ≤ w2.heap.size := HB2.out.size
      clear hb3 hs3 HSP HB2
      generalize w2.heap.size = l2 at *
      go_wp2_with fail
      refine (HTO.out w3 HB3.out).mono ?_
      rintro e w4 ⟨rfl, ho4, hb4⟩
      have HB4 := hide (HB3.out.trans (hb4.mono HB3.out.size))
      have HX4 := hide ho4
      have HS4 := hide (HS3.out.later hb4 (Nat.le_refl _))
      have HS10' := hide HS4.out
      have HIM := hide (HIMK.out w4 _ n ho4.row)
      have hlo3 : w.heap.size ≤ w3.heap.size := HB3.out.size
      clear ho4 hb4 HB3
      go_wp2_with fail
      refine HIM.out.mono ?_
      rintro e w5 ⟨⟨ia, ic, rfl, hg5⟩, hb5⟩
      have HB5 := hide (HB4.out.trans (hb5.mono HB4.out.size))
      have HX5 := hide (HX4.out.later hb5 (Nat.le_refl _))
      have HS5 := hide (HS4.out.later hb5 (Nat.le_refl _))
      have HG5 := hide hg5
      have hlo4 : w.heap.size ≤ w4.heap.size := HB4.out.size
      clear hb5 hg5 HIM HB4
      go_wp2_with fail
      refine (eqEntS_same w5 ia sa m ic sc zs HG5.out.row HS5.out.row (by omega)).mono ?_
      rintro e w6 ⟨rfl, hb6⟩
      have HB6 := hide (HB5.out.trans (hb6.mono HB5.out.size))
      have HX6 := hide (HX5.out.later hb6 (Nat.le_refl _))
      have HS6 := hide (HS5.out.later hb6 (Nat.le_refl _))
      have HG6 := hide (HG5.out.later hb6 (Nat.le_refl _))
      clear hb6 HB5 HX5 HS5 HG5
      go_wp2_with fail
      refine (HTO.out w6 HB6.out).mono ?_
      rintro e w7 ⟨rfl, ho7, hb7⟩
      have HB7 := hide (HB6.out.trans (hb7.mono HB6.out.size))
      have HX7 := hide (HX6.out.later hb7 (Nat.le_refl _))
      have HS7 := hide (HS6.out.later hb7 (Nat.le_refl _))
      have HG7 := hide (HG6.out.later hb7 (Nat.le_refl _))
      have HEQ := hide (eqEntS_same w7 _ _ n n n xs HX7.out.row ho7.row (by omega))
      clear ho7 hb7 HB6 HX6 HS6 HG6
      go_wp2_with fail
      refine HEQ.out.mono ?_
      rintro e w8 ⟨rfl, hb8⟩
      have HB8 := hide (HB7.out.trans (hb8.mono HB7.out.size))
      have HX8 := hide (HX7.out.later hb8 (Nat.le_refl _))
      have HS8 := hide (HS7.out.later hb8 (Nat.le_refl _))
      have HG8 := hide (HG7.out.later hb8 (Nat.le_refl _))
      clear hb8 HEQ HB7 HX7 HS7 HG7
      go_wp2_with fail
      refine (markEntS_any w8 w3.heap.size _ n n xs HX8.out (by omega) 1 (by omega) (by omega)).mono ?_
      rintro e w9 ⟨rfl, ho9, hg9⟩
      have HB9 := hide (HB8.out.trans (grown_to hg9 HB8.out.size (fun g hg => Nat.le_trans hlo3 (HX8.out.blk g hg).1)))
      have HS9 : Hid (entSh.Own 26 w9 l2 (.slice sa m sc) zs) := hide (row_apart HS8.out HS3.out (Nat.le_refl _) HX8.out hg9)
      have HG9 : Hid (entSh.Own 26 w9 w4.heap.size (.slice ia m ic) zs) := hide (row_behind HG8.out HX4.out (Nat.le_refl _) hg9)
      obtain ⟨k1, hk1⟩ : ∃ k, 1 + 5 * n = k := ⟨_, rfl⟩
      have d1 : decide ((k1 : Int) < 0) = false := by simp
      rw [hk1]
      clear hk1 ho9 hg9 HB8 HX8 HS8 HG8 HX4 HS4 HS3
      go_wp2_with fail
      refine (eqEntS_same w9 ia sa m ic sc zs HG9.out.row HS9.out.row (by omega)).mono ?_
      rintro e w10 ⟨rfl, hb10⟩
      have HB10 := hide (HB9.out.trans (hb10.mono HB9.out.size))
      have HS10 := hide (HS9.out.later hb10 (Nat.le_refl _))
      have HG10 := hide (HG9.out.later hb10 (Nat.le_refl _))
      clear hb10 HB9 HS9 HG9
      go_wp2_with fail
      refine (markEntS_any w10 w4.heap.size ia m ic zs HG10.out (by omega) 1 (by omega) (by omega)).mono ?_
      rintro e w11 ⟨rfl, ho11, hg11⟩
      have HB11 := hide (HB10.out.trans (grown_to hg11 HB10.out.size (fun g hg => Nat.le_trans hlo4 (HG10.out.blk g hg).1)))
      have HS11 : Hid (entSh.Own 26 w11 l2 (.slice sa m sc) zs) := hide (row_apart HS10.out HS10'.out (Nat.le_refl _) HG10.out hg11)
      have HG11 := hide ho11
      have HHE := hide (fun W (h : entSh.Row W ia m (markE m 1)) => heldEntS_any W ia m ic (by omega) 1 (by omega) (by omega) h)
      obtain ⟨t, ht⟩ : ∃ t : Int, ((1 + 5 * m : Nat) : Int) = t := ⟨_, rfl⟩
      have t1 : decide (t < 0) = false := by simp; omega
      have t2 : (t != t) = false := by simp
      rw [ht] at HHE ⊢
      clear ht ho11 hg11 HB10 HS10 HG10 HS10'
      go_wp2_with fail
      refine (HHE.out w11 HG11.out.row).mono ?_
      rintro e w12 ⟨rfl, hb12⟩
      have HB12 := hide (HB11.out.trans (hb12.mono HB11.out.size))
      have HS12 := hide (HS11.out.later hb12 (Nat.le_refl _))
      have HG12 := hide (HG11.out.later hb12 (Nat.le_refl _))
      clear hb12 HB11 HS11 HG11
      go_wp2_with fail
      refine (HTO.out w12 HB12.out).mono ?_
      rintro e w13 ⟨rfl, ho13, hb13⟩
      have HB13 := hide (HB12.out.trans (hb13.mono HB12.out.size))
      have HS13 := hide (HS12.out.later hb13 (Nat.le_refl _))
      have HG13 := hide (HG12.out.later hb13 (Nat.le_refl _))
      have HIM := hide (HIMK.out w13 _ n ho13.row)
      clear ho13 hb13 HB12 HS12 HG12
      go_wp2_with fail
      refine HIM.out.mono ?_
      rintro e w14 ⟨⟨ja, jc, rfl, hj14⟩, hb14⟩
      have HB14 := hide (HB13.out.trans (hb14.mono HB13.out.size))
      have HS14 := hide (HS13.out.later hb14 (Nat.le_refl _))
      have HG14 := hide (HG13.out.later hb14 (Nat.le_refl _))
      have HJ14 := hide hj14
      clear hb14 hj14 HIM HB13 HS13 HG13
      go_wp2_with fail
      refine (eqEntS_same w14 ja sa m jc sc zs HJ14.out.row HS14.out.row (by omega)).mono ?_
      rintro e w15 ⟨rfl, hb15⟩
      have HB15 := hide (HB14.out.trans (hb15.mono HB14.out.size))
      have HG15 := hide (HG14.out.later hb15 (Nat.le_refl _))
      clear hb15 HB14 HS14 HG14 HJ14
      go_wp2_with fail
      refine (HHE.out w15 HG15.out.row).mono ?_
      rintro e w16 ⟨rfl, hb16⟩
      have HB16 := hide (HB15.out.trans (hb16.mono HB15.out.size))
      clear hb16 HB15 HG15 HHE
      go_wp2
      go_ret
      exact ⟨rfl, HB16.out⟩
    · rw [lessR_no (by omega)]
      go_wp2
      go_ret
      exact ⟨rfl, HB1.out⟩
  · have dk : decide ((1048576 : Int) < (key.size : Int)) = true := by simp; omega
    go_enter Try.func7, Try.ntmps7
    go_wp2
    go_ret
    exact ⟨rfl, Below.refl _ _⟩

end Go.Proofs.Ytdodlaindeclpaa
