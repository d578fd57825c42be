/-
  The walk of the exact law of ScanRecs.
-/
import Derived.Test.YtkcjlalkniaapaaDoorScanI
import Derived.Test.YtkcjlalkniaapaaDoorMarkSpot
namespace Go.Proofs.YtkcjlalkniaapaaDoor
open Go.RowKit
open Plain

theorem scan_len (s : ByteArray) : (scanS s).1.length ≤ s.size := by
  obtain ⟨t, _, e⟩ := itemF_scan s s.size 0
  have h := itemF_len s s.size 0
  rw [e, List.length_append, List.length_map] at h
  unfold scanS
  omega
theorem Shape.Own.val {α : Type} {S : Shape α} {T : TypeId} {w : World} {base : Nat} {v : Value} {xs : List α} (h : S.Own T w base v xs) : ∃ a cap, v = .slice a xs.length cap := by
  rcases h.2 with ⟨e, h0⟩ | ⟨g, c, cur, e, _⟩
  · exact ⟨none, 0, by rw [e, h0]⟩
  · exact ⟨_, _, e⟩
/-- A row in other blocks stands. -/
theorem Shape.Own.apart {α : Type} {S : Shape α} {T : TypeId} {w w' : World} {base base' : Nat} {v u : Value} {xs ys : List α} (h : S.Own T w base v xs) {W : World} (h0 : S.Own T W base v xs) (hW : W.heap.size ≤ base') (hu : S.Own T w base' u ys) (hg : w.grownBy w' u.ownBlock) : S.Own T w' base v xs := by
  refine World.ownsRow.kept h hg ?_
  cases e : v.ownBlock with
  | none => exact .inl rfl
  | some g =>
    refine .inr (fun q => ?_)
    have h1 := (h0.blk g e).2
    have h2 := (hu.blk g q.symm).1
    omega
theorem grown_below {w w' : World} {u : Option Nat} {n : Nat} (hg : w.grownBy w' u) (hn : n ≤ w.heap.size) (hu : ∀ g, u = some g → n ≤ g) : Below n w w' := (Below.refl n w).grown hg hn hu

set_option maxRecDepth 100000 in
set_option maxHeartbeats 4000000 in
theorem lawScan_walk (a0 : ByteArray) (w0 : a0.size ≤ maxLen) (w : World) (A B : Addr) (ht : STab w) (he : ErrIn w A B) :
    Calls Tryd.prog 6 #[.string a0] w fun e w' => e = .returned (.bool true) ∧ Below w.heap.size w w' := by
  by_cases hb : a0.size ≤ 1048576
  · have t0 : decide ((1048576 : Int) < (a0.size : Int)) = false := by simp; omega
    have hn := scan_len a0
    have HT := hide ht
    have HE := hide he
    have HSP := hide (specScan_any a0 hb)
    have HIM : Hid (∀ W, Below w.heap.size w W → _) := hide (fun W (hW : Below w.heap.size w W) => implScan_any a0 hb A B W (HT.out.later hW) (HE.out.later hW (Nat.le_refl _)))
    generalize (scanS a0).2 = fin at *
    generalize (scanS a0).1 = xs at *
    clear ht he HT HE
    go_enter Tryd.func6, Tryd.ntmps6
    go_wp2_with fail
    refine (HSP.out _).mono ?_
    rintro e w1 ⟨⟨sa, sn, sc, rfl, ho1⟩, hb1⟩
    obtain rfl := ho1.len
    have HB1 := hide hb1
    have HO1 := hide ho1
    have HIM1 := hide (HIM.out w1 hb1)
    clear hb1 ho1 HSP
    go_wp2_with fail
    refine HIM1.out.mono ?_
    rintro e w2 ⟨⟨v, rfl, ho2⟩, hb2⟩
    obtain ⟨ia, ic, rfl⟩ := ho2.val
    have HB2 := hide (HB1.out.trans (hb2.mono HB1.out.size))
    have HG2 := hide ho2
    have HS2 := hide (HO1.out.later hb2 (Nat.le_refl _))
    have HSZ := hide HB1.out.size
    clear hb2 ho2 HIM1
    go_wp2_with fail
    refine (eqSpotS_same w2 ia sa xs.length ic sc xs HG2.out.row HS2.out.row (by omega)).mono ?_
    rintro e w3 ⟨rfl, hb3⟩
    have HB3 := hide (HB2.out.trans (hb3.mono HB2.out.size))
    have HG3 := hide (HG2.out.later hb3 (Nat.le_refl _))
    have HS3 := hide (HS2.out.later hb3 (Nat.le_refl _))
    clear hb3 HB2 HG2 HS2
    go_wp2_with fail
    refine (markSpotS_any w3 _ ia xs.length ic xs HG3.out (by omega) 1 (by omega) (by omega)).mono ?_
    rintro e w4 ⟨rfl, ho4, hg4⟩
    have HG4 := hide ho4
    have HS4 := hide (HS3.out.apart HO1.out (Nat.le_refl _) HG3.out hg4)
    have HB4 := hide (HB3.out.trans (grown_below hg4 HB3.out.size (fun g hg => Nat.le_trans HSZ.out (HG3.out.blk g hg).1)))
    clear ho4 hg4 HB3 HG3 HS3
    have HH : Hid (∀ W, spotSh.Row W ia xs.length (markS xs.length 1) → _) := hide (fun W h => heldSpotS_any W ia xs.length ic (by omega) 1 (by omega) (by omega) h)
    obtain ⟨t, htt⟩ : ∃ t : Nat, 1 + 8 * xs.length = t := ⟨_, rfl⟩
    rw [htt] at HH ⊢
    have t1 : decide ((t : Int) < 0) = false := by simp
    clear htt
    go_wp2_with fail
    refine (HH.out w4 HG4.out.row).mono ?_
    rintro e w5 ⟨rfl, hb5⟩
    have HB5 := hide (HB4.out.trans (hb5.mono HB4.out.size))
    have HG5 := hide (HG4.out.later hb5 (Nat.le_refl _))
    have HS5 := hide (HS4.out.later hb5 (Nat.le_refl _))
    have HIM5 := hide (HIM.out w5 HB5.out)
    clear hb5 HB4 HG4 HS4
    go_wp2_with fail
    refine HIM5.out.mono ?_
    rintro e w6 ⟨⟨v, rfl, ho6⟩, hb6⟩
    obtain ⟨ja, jc, rfl⟩ := ho6.val
    have HB6 := hide (HB5.out.trans (hb6.mono HB5.out.size))
    have HG6 := hide (HG5.out.later hb6 (Nat.le_refl _))
    have HS6 := hide (HS5.out.later hb6 (Nat.le_refl _))
    have HJ6 := hide ho6
    clear hb6 ho6 HB5 HG5 HS5 HIM5
    go_wp2_with fail
    refine (eqSpotS_same w6 ja sa xs.length jc sc xs HJ6.out.row HS6.out.row (by omega)).mono ?_
    rintro e w7 ⟨rfl, hb7⟩
    have HB7 := hide (HB6.out.trans (hb7.mono HB6.out.size))
    have HG7 := hide (HG6.out.later hb7 (Nat.le_refl _))
    clear hb7 HB6 HG6 HS6 HJ6
    go_wp2_with fail
    refine (HH.out w7 HG7.out.row).mono ?_
    rintro e w8 ⟨rfl, hb8⟩
    have HB8 := hide (HB7.out.trans (hb8.mono HB7.out.size))
    clear hb8 HB7 HG7 HH
    go_wp2
    go_ret
    exact ⟨rfl, HB8.out⟩
  · unfold maxLen at w0
    clear ht he
    go_enter Tryd.func6, Tryd.ntmps6
    go_wp2
    go_ret
    exact ⟨rfl, Below.refl _ _⟩

end Go.Proofs.YtkcjlalkniaapaaDoor
