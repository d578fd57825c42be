/-
  impl.Create.
-/
import Derived.Test.YthhjomaccbpnbabDoorCreateC
import Derived.Test.YthhjomaccbpnbabDoorStepMore
import Derived.Test.YthhjomaccbpnbabDoorStepImpl
namespace Go.Proofs.YthhjomaccbpnbabDoor
open Go.RowKit Go.Maps
open Plain

theorem create_change (A : SentA) (fs : List FileV) (nm : ByteArray) (hs : nm.size ≤ 1048576) (nb : Nat) :
    Change 33 #[.pointer (some ⟨nb, 0, none⟩)] A fs (creC fs nm) (creR fs nm) (fun W => W.cell? ⟨nb, 0, none⟩ = some (.string nm)) := by
  intro W B n hm hn hA hP
  by_cases h1 : nameOk nm = true
  · by_cases h2 : findF fs nm < 0
    · by_cases h3 : 130 ≤ fs.length
      · have hc : creC fs nm = 2 := by unfold creC; rw [if_pos h1, if_pos h2, if_pos h3]
        refine (creC_full W A hA B n nb fs hm nm (findF_none h2) hP h1 hs h3).mono ?_
        rintro e w' ⟨rfl, hg⟩
        exact ⟨by rw [hc], fun e => by rw [hc] at e; omega, hg⟩
      · have hc : creC fs nm = 0 := by unfold creC; rw [if_pos h1, if_pos h2, if_neg h3]
        refine (creC_new W B n nb fs hm hn nm (findF_none h2) hP h1 hs h3).mono ?_
        rintro e w' ⟨rfl, ⟨D, h1, h2⟩, hg⟩
        exact ⟨by rw [hc]; rfl, fun _ => ⟨_, insF_perm _ _, D, h1.mono (by omega), h2⟩, hg⟩
    · have hc : creC fs nm = 4 := by unfold creC; rw [if_pos h1, if_neg h2]
      obtain ⟨k, hk, hkl, hkn⟩ := findF_name h2
      refine (creC_has W A hA B n nb fs hm (fs[k]) (List.getElem_mem hkl) (by rw [hkn]; exact hP) (by rw [hkn]; exact h1) (by rw [hkn]; omega)).mono ?_
      rintro e w' ⟨rfl, hg⟩
      exact ⟨by rw [hc], fun e => by rw [hc] at e; omega, hg⟩
  · have hc : creC fs nm = 5 := by unfold creC; rw [if_neg h1]
    refine (creC_bad W A hA B nb nm hP h1 hs).mono ?_
    rintro e w' ⟨rfl, hg⟩
    exact ⟨by rw [hc], fun e => by rw [hc] at e; omega, hg⟩
theorem creC_code (fs : List FileV) (nm : ByteArray) : 0 ≤ creC fs nm ∧ creC fs nm ≤ 5 := by
  unfold creC
  repeat' split
  all_goals omega

set_option maxRecDepth 100000 in
set_option maxHeartbeats 1000000 in
theorem implCreate_any (w : World) (A : SentA) (hA : SentIn w A) (a : Option Addr) (n cap : Nat) (fs : List FileV) (ha : a = none ∨ ∃ g, a = some ⟨g, 0, none⟩) (hr : FRow w 0 a n fs) (hn : n ≤ 1048576) (hz : szFs fs ≤ 1048576) (c u : Int) (d : Bool) (hu : -9223372036854775808 ≤ u) (hu2 : u ≤ 9223372036854775807) (nm : ByteArray) (hs : nm.size ≤ 1048576) :
    Calls Tryd.prog 12 #[.agg #[.slice a n cap, .int .i64 c, .int .i64 u, .bool d], .string nm] w fun e w' => (∃ a' cap', e = .returned (.tuple #[.agg #[.slice a' (creF fs c u d nm).1.length cap', .int .i64 c, .int .i64 (begU fs c u d), .bool (begD fs c u d)], .int .i64 (creF fs c u d nm).2]) ∧ FOwn w' w.heap.size (.slice a' (creF fs c u d nm).1.length cap') (creF fs c u d nm).1) ∧ Below w.heap.size w w' := by
  obtain ⟨W, hW⟩ : ∃ W, W = ((w.alloc (.cells #[.slice a n cap, .int .i64 c, .int .i64 u, .bool d] 28)).alloc (.cells #[.string nm] 9)).alloc (.cells #[.slice none 0 0, .int .i64 0, .int .i64 0, .bool false] 28) := ⟨_, rfl⟩
  have hAL := alloc3 w (.cells #[.slice a n cap, .int .i64 c, .int .i64 u, .bool d] 28) (.cells #[.string nm] 9) (.cells #[.slice none 0 0, .int .i64 0, .int .i64 0, .bool false] 28)
  rw [← hW] at hAL
  have HSZ := hide hAL.1
  have HB0 := hide hAL.2.1
  have HC0 := hide hAL.2.2.1
  have HC1 := hide hAL.2.2.2.1
  have HC2 := hide hAL.2.2.2.2
  have HRW := hide (hr.later hAL.2.1 (Nat.le_refl _))
  have HST := hide (implStep_any W A (hA.later hAL.2.1 (Nat.le_refl _)) a n cap fs ha (hr.later hAL.2.1 (Nat.le_refl _)) hn hz c u d hu hu2 33 #[.pointer (some ⟨w.heap.size + 1, 0, none⟩)] (enters_of Tryd.func33 (by kernel_rfl) rfl) (creC fs nm) (creC_code fs nm) (creR fs nm)
    (fun q h => creR_rising (rising_of q) nm h)
    (fun W' => W'.cell? ⟨w.heap.size + 1, 0, none⟩ = some (.string nm))
    (fun W' hb => by rw [cell_of_row W' _ _ _ _ _ ((hb.block _ (by have := HSZ.out; omega)).trans HC1.out)]; rfl)
    (fun q => create_change A fs nm hs (w.heap.size + 1)))
  rw [creF_step] at HST
  clear hAL hr hA HRW
  go_enter Tryd.func12, Tryd.ntmps12
  go_wp2_with fail
  rw [← hW]
  clear hW
  refine HST.out.mono ?_
  rintro e w2 ⟨⟨a', cap', rfl, ho⟩, hb⟩
  obtain ⟨r0, r1, r2, r3, k0, k1, k2, k3⟩ := cells4 ((hb.block _ (by have := HSZ.out; omega)).trans HC2.out)
  have HO := hide (ho.mono (base' := w.heap.size + 3) (by have := HSZ.out; omega))
  have HB := hide (HB0.out.trans (hb.mono HB0.out.size))
  clear ho hb HST HC0 HC1 HC2
  go_wp2
  refine bodyPost_ret (v := .tuple #[.agg #[.slice a' (creF fs c u d nm).1.length cap', .int .i64 c, .int .i64 (begU fs c u d), .bool (begD fs c u d)], .int .i64 (creF fs c u d nm).2]) (by simp [results, Tryd.results12, go_sem, *]) rfl ⟨⟨a', cap', rfl, ?_⟩, ?_⟩
  · refine FOwn.mono ?_ (Nat.le_add_right _ 3)
    (repeat (first | with_reducible (refine FOwn.setCell ?_ _ _ (by dsimp only; omega)) | with_reducible (refine FOwn.drewO ?_) | with_reducible (exact HO.out)))
  · (repeat (first | with_reducible (refine Below.setCell ?_ (by dsimp only; omega) _) | with_reducible (refine Below.drew ?_) | with_reducible (exact HB.out)))

end Go.Proofs.YthhjomaccbpnbabDoor
