/-
  impl.Truncate.
-/
import Derived.Test.YthhjomaccbpnbabDoorTruncC
import Derived.Test.YthhjomaccbpnbabDoorStepMore
import Derived.Test.YthhjomaccbpnbabDoorStepImpl
import Derived.Test.YthhjomaccbpnbabDoorAlloc4
namespace Go.Proofs.YthhjomaccbpnbabDoor
open Go.RowKit Go.Maps
open Plain

theorem trunc_change (A : SentA) (fs : List FileV) (hap : fs.Pairwise (fun f g => f.name ≠ g.name)) (nm : ByteArray) (m : Int) (hs : nm.size ≤ 1048576) (hz : szFs fs ≤ 1048576) (nb mb : Nat) :
    Change 47 #[.pointer (some ⟨nb, 0, none⟩), .pointer (some ⟨mb, 0, none⟩)] A fs (truC fs nm m) (truR fs nm m) (fun W => W.cell? ⟨nb, 0, none⟩ = some (.string nm) ∧ W.cell? ⟨mb, 0, none⟩ = some (.int .i64 m)) := by
  intro W B n hm hn hA hP
  by_cases h : findF fs nm < 0
  · have hc : truC fs nm m = 3 := by unfold truC; rw [if_pos h]
    refine (truC_no W A hA B n nb mb fs hm nm hP.1 (findF_none h) hs).mono ?_
    rintro e w' ⟨rfl, hg⟩
    exact ⟨by rw [hc], fun e => by rw [hc] at e; omega, hg⟩
  · obtain ⟨j, hj, hjl, hjn⟩ := findF_name h
    have hts : (fs[j]).text.size ≤ 1048576 := Nat.le_trans (text_le fs j hjl) hz
    have hgd : (fs.getD (findF fs nm).toNat zeroF) = fs[j] := by rw [hj, Int.toNat_natCast, getD_of hjl]
    by_cases h1 : m < 0
    · have hc : truC fs nm m = 5 := by unfold truC; rw [if_neg h, if_neg (by unfold inB; simp; omega)]
      refine (truC_low W A hA B n nb mb fs hm (fs[j]) (List.getElem_mem hjl) m (by rw [hjn]; exact hP.1) hP.2 (by rw [hjn]; omega) h1).mono ?_
      rintro e w' ⟨rfl, hg⟩
      exact ⟨by rw [hc], fun e => by rw [hc] at e; omega, hg⟩
    · by_cases h2 : ((fs[j]).text.size : Int) < m
      · have hc : truC fs nm m = 5 := by unfold truC; rw [if_neg h, hgd, if_neg (by unfold inB; simp; omega)]
        refine (truC_high W A hA B n nb mb fs hm (fs[j]) (List.getElem_mem hjl) m (by rw [hjn]; exact hP.1) hP.2 (by rw [hjn]; omega) h1 h2).mono ?_
        rintro e w' ⟨rfl, hg⟩
        exact ⟨by rw [hc], fun e => by rw [hc] at e; omega, hg⟩
      · have hc : truC fs nm m = 0 := by unfold truC; rw [if_neg h, hgd, if_pos (by unfold inB; simp; omega)]
        obtain ⟨M, rfl⟩ := Int.eq_ofNat_of_zero_le (show 0 ≤ m by omega)
        have hr : truR fs nm (M : Int) = fs.set j ⟨(fs[j]).name, (fs[j]).text.extract 0 M, min (fs[j]).safe (M : Int)⟩ := by unfold truR; rw [hgd, hj, Int.toNat_natCast, Int.toNat_natCast]
        refine (truC_yes W B n nb mb fs hm hn (fs[j]) (List.getElem_mem hjl) M (by rw [hjn]; exact hP.1) hP.2 (by rw [hjn]; omega) (by omega) hts).mono ?_
        rintro e w' ⟨rfl, ⟨D, h1, h2⟩, hg⟩
        refine ⟨by rw [hc]; rfl, fun _ => ⟨_, ?_, D, h1.mono (by omega), h2⟩, hg⟩
        rw [hr]
        exact set_perm_others hap j hjl _
theorem truC_code (fs : List FileV) (nm : ByteArray) (m : Int) : 0 ≤ truC fs nm m ∧ truC fs nm m ≤ 5 := by
  unfold truC
  repeat' split
  all_goals omega
theorem truR_rising {fs : List FileV} (h : Rising fs) (nm : ByteArray) (m : Int) (hc : truC fs nm m = 0) : Rising (truR fs nm m) := by
  have hf : ¬ findF fs nm < 0 := fun h2 => by unfold truC at hc; rw [if_pos h2] at hc; omega
  obtain ⟨k, hk, hkl, hkn⟩ := findF_name hf
  unfold truR
  rw [hk, Int.toNat_natCast, getD_of hkl]
  exact rising_set h k hkl _ rfl

set_option maxRecDepth 100000 in
set_option maxHeartbeats 1000000 in
theorem implTrunc_any (w : World) (A : SentA) (hA : SentIn w A) (a : Option Addr) (n cap : Nat) (fs : List FileV) (ha : a = none ∨ ∃ g, a = some ⟨g, 0, none⟩) (hr : FRow w 0 a n fs) (hn : n ≤ 1048576) (hz : szFs fs ≤ 1048576) (c u : Int) (d : Bool) (hu : -9223372036854775808 ≤ u) (hu2 : u ≤ 9223372036854775807) (nm : ByteArray) (m : Int) (hs : nm.size ≤ 1048576) :
    Calls Tryd.prog 25 #[.agg #[.slice a n cap, .int .i64 c, .int .i64 u, .bool d], .string nm, .int .i64 m] w fun e w' => (∃ a' cap', e = .returned (.tuple #[.agg #[.slice a' (truF fs c u d nm m).1.length cap', .int .i64 c, .int .i64 (begU fs c u d), .bool (begD fs c u d)], .int .i64 (truF fs c u d nm m).2]) ∧ FOwn w' w.heap.size (.slice a' (truF fs c u d nm m).1.length cap') (truF fs c u d nm m).1) ∧ Below w.heap.size w w' := by
  obtain ⟨W, hW⟩ : ∃ W, W = (((w.alloc (.cells #[.slice a n cap, .int .i64 c, .int .i64 u, .bool d] 28)).alloc (.cells #[.string nm] 9)).alloc (.cells #[.int .i64 m] 3)).alloc (.cells #[.slice none 0 0, .int .i64 0, .int .i64 0, .bool false] 28) := ⟨_, rfl⟩
  have hAL := alloc4 w (.cells #[.slice a n cap, .int .i64 c, .int .i64 u, .bool d] 28) (.cells #[.string nm] 9) (.cells #[.int .i64 m] 3) (.cells #[.slice none 0 0, .int .i64 0, .int .i64 0, .bool false] 28)
  rw [← hW] at hAL
  have HSZ := hide hAL.1
  have HB0 := hide hAL.2.1
  have HC0 := hide hAL.2.2.1
  have HC1 := hide hAL.2.2.2.1
  have HC2 := hide hAL.2.2.2.2.1
  have HC3 := hide hAL.2.2.2.2.2
  have HRW := hide (hr.later hAL.2.1 (Nat.le_refl _))
  have HST := hide (implStep_any W A (hA.later hAL.2.1 (Nat.le_refl _)) a n cap fs ha (hr.later hAL.2.1 (Nat.le_refl _)) hn hz c u d hu hu2 47 #[.pointer (some ⟨w.heap.size + 1, 0, none⟩), .pointer (some ⟨w.heap.size + 1 + 1, 0, none⟩)] (enters_of Tryd.func47 (by kernel_rfl) rfl) (truC fs nm m) (truC_code fs nm m) (truR fs nm m)
    (fun q h => truR_rising (rising_of q) nm m h)
    (fun W' => W'.cell? ⟨w.heap.size + 1, 0, none⟩ = some (.string nm) ∧ W'.cell? ⟨w.heap.size + 1 + 1, 0, none⟩ = some (.int .i64 m))
    (fun W' hb => ⟨by rw [cell_of_row W' _ _ _ _ _ ((hb.block _ (by have := HSZ.out; omega)).trans HC1.out)]; rfl, by rw [cell_of_row W' _ _ _ _ _ ((hb.block _ (by have := HSZ.out; omega)).trans HC2.out)]; rfl⟩)
    (fun q => trunc_change A fs (rising_of q).apart nm m hs hz (w.heap.size + 1) (w.heap.size + 1 + 1)))
  rw [truF_step] at HST
  clear hAL hr hA HRW
  go_enter Tryd.func25, Tryd.ntmps25
  go_wp2_with fail
  rw [← hW]
  clear hW
  refine HST.out.mono ?_
  rintro e w2 ⟨⟨a', cap', rfl, ho⟩, hb⟩
  obtain ⟨r0, r1, r2, r3, k0, k1, k2, k3⟩ := cells4 ((hb.block _ (by have := HSZ.out; omega)).trans HC3.out)
  have HO := hide (ho.mono (base' := w.heap.size + 4) (by have := HSZ.out; omega))
  have HB := hide (HB0.out.trans (hb.mono HB0.out.size))
  clear ho hb HST HC0 HC1 HC2 HC3
  go_wp2
  refine bodyPost_ret (v := .tuple #[.agg #[.slice a' (truF fs c u d nm m).1.length cap', .int .i64 c, .int .i64 (begU fs c u d), .bool (begD fs c u d)], .int .i64 (truF fs c u d nm m).2]) (by simp [results, Tryd.results25, go_sem, *]) rfl ⟨⟨a', cap', rfl, ?_⟩, ?_⟩
  · refine FOwn.mono ?_ (Nat.le_add_right _ 4)
    (repeat (first | with_reducible (refine FOwn.setCell ?_ _ _ (by dsimp only; omega)) | with_reducible (refine FOwn.drewO ?_) | with_reducible (exact HO.out)))
  · (repeat (first | with_reducible (refine Below.setCell ?_ (by dsimp only; omega) _) | with_reducible (refine Below.drew ?_) | with_reducible (exact HB.out)))

end Go.Proofs.YthhjomaccbpnbabDoor
