/-
  impl.Append.
-/
import Derived.Test.YthhjomaccbpnbabDoorAppendC
import Derived.Test.YthhjomaccbpnbabDoorStepMore
import Derived.Test.YthhjomaccbpnbabDoorStepImpl
import Derived.Test.YthhjomaccbpnbabDoorAlloc4
namespace Go.Proofs.YthhjomaccbpnbabDoor
open Go.RowKit Go.Maps
open Plain

theorem append_change (A : SentA) (fs : List FileV) (hap : fs.Pairwise (fun f g => f.name ≠ g.name)) (nm t : ByteArray) (hs : nm.size ≤ 1048576) (ht : t.size ≤ 1048576) (nb tb db : Nat) (a : Option Addr) (k cap : Nat) (c u : Int) (d : Bool) (hk : k ≤ 1048576) (hz : szFs fs ≤ 1048576) (hc : 0 ≤ c ∧ c ≤ 100000) :
    Change 39 #[.pointer (some ⟨nb, 0, none⟩), .pointer (some ⟨tb, 0, none⟩), .pointer (some ⟨db, 0, none⟩)] A fs (appC fs c nm t) (appR fs nm t) (fun W => AppIn W nb tb db nm t a k cap c u d fs) := by
  intro W B n hm hn hA hP
  have hus : usedF fs ≤ 1048576 := Nat.le_trans (usedF_le_sz fs) hz
  by_cases h : findF fs nm < 0
  · have hc : appC fs c nm t = 3 := by unfold appC; rw [if_pos h]
    refine (appC_no W A hA B n nb tb db fs hm nm hP.nam (findF_none h) hs).mono ?_
    rintro e w' ⟨rfl, hg⟩
    exact ⟨by rw [hc], fun e => by rw [hc] at e; omega, hg⟩
  · obtain ⟨j, hj, hjl, hjn⟩ := findF_name h
    have hts : (fs[j]).text.size ≤ 1048576 := Nat.le_trans (text_le fs j hjl) hz
    by_cases h2 : c - (usedF fs : Int) < (t.size : Int)
    · have hc2 : appC fs c nm t = 2 := by unfold appC; rw [if_neg h, if_pos h2]
      refine (appC_full W A hA B n nb tb db fs hm (fs[j]) (List.getElem_mem hjl) t a k cap c u d fs (by rw [hjn]; exact hP) (by rw [hjn]; omega) hk hus hc h2).mono ?_
      rintro e w' ⟨rfl, hg⟩
      exact ⟨by rw [hc2], fun e => by rw [hc2] at e; omega, hg⟩
    · have hc0 : appC fs c nm t = 0 := by unfold appC; rw [if_neg h, if_neg h2]
      have hr : appR fs nm t = fs.set j ⟨(fs[j]).name, (fs[j]).text ++ t, (fs[j]).safe⟩ := by unfold appR; rw [hj, Int.toNat_natCast, getD_of hjl]
      refine (appC_yes W B n nb tb db fs hm hn (fs[j]) (List.getElem_mem hjl) t a k cap c u d fs (by rw [hjn]; exact hP) (by rw [hjn]; omega) hts ht hk hus hc h2).mono ?_
      rintro e w' ⟨rfl, ⟨D, h1, h2⟩, hg⟩
      refine ⟨by rw [hc0]; rfl, fun _ => ⟨_, ?_, D, h1.mono (by omega), h2⟩, hg⟩
      rw [hr]
      exact set_perm_others hap j hjl _
theorem appC_code (fs : List FileV) (c : Int) (nm t : ByteArray) : 0 ≤ appC fs c nm t ∧ appC fs c nm t ≤ 5 := by
  unfold appC
  repeat' split
  all_goals omega
theorem appR_rising {fs : List FileV} (h : Rising fs) (c : Int) (nm t : ByteArray) (hc : appC fs c nm t = 0) : Rising (appR fs nm t) := by
  have hf : ¬ findF fs nm < 0 := fun h2 => by unfold appC at hc; rw [if_pos h2] at hc; omega
  obtain ⟨k, hk, hkl, hkn⟩ := findF_name hf
  unfold appR
  rw [hk, Int.toNat_natCast, getD_of hkl]
  exact rising_set h k hkl _ rfl

set_option maxRecDepth 100000 in
set_option maxHeartbeats 1000000 in
theorem implAppend_any (w : World) (A : SentA) (hA : SentIn w A) (a : Option Addr) (n cap : Nat) (fs : List FileV) (ha : a = none ∨ ∃ g, a = some ⟨g, 0, none⟩) (hr : FRow w 0 a n fs) (hn : n ≤ 1048576) (hz : szFs fs ≤ 1048576) (c u : Int) (d : Bool) (hu : -9223372036854775808 ≤ u) (hu2 : u ≤ 9223372036854775807) (nm t : ByteArray) (hs : nm.size ≤ 1048576) (ht : t.size ≤ 1048576) :
    Calls Tryd.prog 17 #[.agg #[.slice a n cap, .int .i64 c, .int .i64 u, .bool d], .string nm, .string t] w fun e w' => (∃ a' cap', e = .returned (.tuple #[.agg #[.slice a' (appF fs c u d nm t).1.length cap', .int .i64 c, .int .i64 (begU fs c u d), .bool (begD fs c u d)], .int .i64 (appF fs c u d nm t).2]) ∧ FOwn w' w.heap.size (.slice a' (appF fs c u d nm t).1.length cap') (appF fs c u d nm t).1) ∧ Below w.heap.size w w' := by
  obtain ⟨W, hW⟩ : ∃ W, W = (((w.alloc (.cells #[.slice a n cap, .int .i64 c, .int .i64 u, .bool d] 28)).alloc (.cells #[.string nm] 9)).alloc (.cells #[.string t] 9)).alloc (.cells #[.slice none 0 0, .int .i64 0, .int .i64 0, .bool false] 28) := ⟨_, rfl⟩
  have hAL := alloc4 w (.cells #[.slice a n cap, .int .i64 c, .int .i64 u, .bool d] 28) (.cells #[.string nm] 9) (.cells #[.string t] 9) (.cells #[.slice none 0 0, .int .i64 0, .int .i64 0, .bool false] 28)
  rw [← hW] at hAL
  have HSZ := hide hAL.1
  have HB0 := hide hAL.2.1
  have HC0 := hide hAL.2.2.1
  have HC1 := hide hAL.2.2.2.1
  have HC2 := hide hAL.2.2.2.2.1
  have HC3 := hide hAL.2.2.2.2.2
  have HRW := hide (hr.later hAL.2.1 (Nat.le_refl _))
  have HST := hide (implStep_any W A (hA.later hAL.2.1 (Nat.le_refl _)) a n cap fs ha (hr.later hAL.2.1 (Nat.le_refl _)) hn hz c u d hu hu2 39 #[.pointer (some ⟨w.heap.size + 1, 0, none⟩), .pointer (some ⟨w.heap.size + 1 + 1, 0, none⟩), .pointer (some ⟨w.heap.size, 0, none⟩)] (enters_of Tryd.func39 (by kernel_rfl) rfl) (appC fs c nm t) (appC_code fs c nm t) (appR fs nm t)
    (fun q h => appR_rising (rising_of q) c nm t h)
    (fun W' => AppIn W' (w.heap.size + 1) (w.heap.size + 1 + 1) w.heap.size nm t a n cap c u d fs)
    (fun W' hb => ⟨by rw [cell_of_row W' _ _ _ _ _ ((hb.block _ (by have := HSZ.out; omega)).trans HC1.out)]; rfl, by rw [cell_of_row W' _ _ _ _ _ ((hb.block _ (by have := HSZ.out; omega)).trans HC2.out)]; rfl, (hb.block _ (by have := HSZ.out; omega)).trans HC0.out, HRW.out.later hb (Nat.le_refl _)⟩)
    (fun q => append_change A fs (rising_of q).apart nm t hs ht (w.heap.size + 1) (w.heap.size + 1 + 1) w.heap.size a n cap c u d hn hz ⟨(len_of q).2.2.1, (len_of q).2.2.2.1⟩))
  rw [appF_step] at HST
  clear hAL hr hA HRW
  go_enter Tryd.func17, Tryd.ntmps17
  go_wp2_with fail
  rw [← hW]
  clear hW
  refine HST.out.mono ?_
  rintro e w2 ⟨⟨a', cap', rfl, ho⟩, hb⟩
  obtain ⟨r0, r1, r2, r3, k0, k1, k2, k3⟩ := cells4 ((hb.block _ (by have := HSZ.out; omega)).trans HC3.out)
  have HO := hide (ho.mono (base' := w.heap.size + 4) (by have := HSZ.out; omega))
  have HB := hide (HB0.out.trans (hb.mono HB0.out.size))
  clear ho hb HST HC0 HC1 HC2 HC3
  go_wp2
  refine bodyPost_ret (v := .tuple #[.agg #[.slice a' (appF fs c u d nm t).1.length cap', .int .i64 c, .int .i64 (begU fs c u d), .bool (begD fs c u d)], .int .i64 (appF fs c u d nm t).2]) (by simp [results, Tryd.results17, go_sem, *]) rfl ⟨⟨a', cap', rfl, ?_⟩, ?_⟩
  · refine FOwn.mono ?_ (Nat.le_add_right _ 4)
    (repeat (first | with_reducible (refine FOwn.setCell ?_ _ _ (by dsimp only; omega)) | with_reducible (refine FOwn.drewO ?_) | with_reducible (exact HO.out)))
  · (repeat (first | with_reducible (refine Below.setCell ?_ (by dsimp only; omega) _) | with_reducible (refine Below.drew ?_) | with_reducible (exact HB.out)))

end Go.Proofs.YthhjomaccbpnbabDoor
