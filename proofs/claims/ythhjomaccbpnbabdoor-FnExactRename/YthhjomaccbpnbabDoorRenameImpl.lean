/-
  impl.Rename.
-/
import Derived.Test.YthhjomaccbpnbabDoorRenameC
import Derived.Test.YthhjomaccbpnbabDoorStepMore
import Derived.Test.YthhjomaccbpnbabDoorStepImpl
import Derived.Test.YthhjomaccbpnbabDoorAlloc4
namespace Go.Proofs.YthhjomaccbpnbabDoor
open Go.RowKit Go.Maps
open Plain

theorem rename_change (A : SentA) (fs : List FileV) (hri : Rising fs) (nm to : ByteArray) (hs : nm.size ≤ 1048576) (ht : to.size ≤ 1048576) (tb nb : Nat) :
    Change 44 #[.pointer (some ⟨tb, 0, none⟩), .pointer (some ⟨nb, 0, none⟩)] A fs (renC fs nm to) (renR fs nm to) (fun W => W.cell? ⟨tb, 0, none⟩ = some (.string to) ∧ W.cell? ⟨nb, 0, none⟩ = some (.string nm)) := by
  intro W B n hm hn hA hP
  by_cases h1 : nameOk to = true
  · by_cases h2 : findF fs nm < 0
    · have hc : renC fs nm to = 3 := by unfold renC; rw [if_pos h1, if_pos h2]
      refine (renC_no W A hA B n tb nb fs hm nm to hP.1 hP.2 h1 (findF_none h2) hs ht).mono ?_
      rintro e w' ⟨rfl, hg⟩
      exact ⟨by rw [hc], fun e => by rw [hc] at e; omega, hg⟩
    · have hc : renC fs nm to = 0 := by unfold renC; rw [if_pos h1, if_neg h2]
      obtain ⟨k, hk, hkl, hkn⟩ := findF_name h2
      have hp := renR_perm hri nm to k hk hkl hkn
      refine (renC_yes W B n tb nb fs hm hn (fs[k]) (List.getElem_mem hkl) to hP.1 (by rw [hkn]; exact hP.2) h1 (by rw [hkn]; omega) ht (mown_ne hm hP.1)).mono ?_
      rintro e w' ⟨rfl, ⟨D, h1, h2⟩, hg⟩
      refine ⟨by rw [hc]; rfl, fun _ => ⟨_, ?_, D, h1.mono (by omega), h2⟩, hg⟩
      rw [hkn]
      exact hp
  · have hc : renC fs nm to = 5 := by unfold renC; rw [if_neg h1]
    refine (renC_bad W A hA B tb nb to hP.1 h1 ht).mono ?_
    rintro e w' ⟨rfl, hg⟩
    exact ⟨by rw [hc], fun e => by rw [hc] at e; omega, hg⟩
theorem renC_code (fs : List FileV) (nm to : ByteArray) : 0 ≤ renC fs nm to ∧ renC fs nm to ≤ 5 := by
  unfold renC
  repeat' split
  all_goals omega

set_option maxRecDepth 100000 in
set_option maxHeartbeats 1000000 in
theorem implRename_any (w : World) (A : SentA) (hA : SentIn w A) (a : Option Addr) (n cap : Nat) (fs : List FileV) (ha : a = none ∨ ∃ g, a = some ⟨g, 0, none⟩) (hr : FRow w 0 a n fs) (hn : n ≤ 1048576) (hz : szFs fs ≤ 1048576) (c u : Int) (d : Bool) (hu : -9223372036854775808 ≤ u) (hu2 : u ≤ 9223372036854775807) (nm t : ByteArray) (hs : nm.size ≤ 1048576) (ht : t.size ≤ 1048576) :
    Calls Tryd.prog 21 #[.agg #[.slice a n cap, .int .i64 c, .int .i64 u, .bool d], .string nm, .string t] w fun e w' => (∃ a' cap', e = .returned (.tuple #[.agg #[.slice a' (renF fs c u d nm t).1.length cap', .int .i64 c, .int .i64 (begU fs c u d), .bool (begD fs c u d)], .int .i64 (renF fs c u d nm t).2]) ∧ FOwn w' w.heap.size (.slice a' (renF fs c u d nm t).1.length cap') (renF fs c u d nm t).1) ∧ Below w.heap.size w w' := by
  obtain ⟨W, hW⟩ : ∃ W, W = (((w.alloc (.cells #[.slice a n cap, .int .i64 c, .int .i64 u, .bool d] 28)).alloc (.cells #[.string nm] 9)).alloc (.cells #[.string t] 9)).alloc (.cells #[.slice none 0 0, .int .i64 0, .int .i64 0, .bool false] 28) := ⟨_, rfl⟩
  have hAL := alloc4 w (.cells #[.slice a n cap, .int .i64 c, .int .i64 u, .bool d] 28) (.cells #[.string nm] 9) (.cells #[.string t] 9) (.cells #[.slice none 0 0, .int .i64 0, .int .i64 0, .bool false] 28)
  rw [← hW] at hAL
  have HSZ := hide hAL.1
  have HB0 := hide hAL.2.1
  have HC0 := hide hAL.2.2.1
  have HC1 := hide hAL.2.2.2.1
  have HC2 := hide hAL.2.2.2.2.1
  have HC3 := hide hAL.2.2.2.2.2
  have HRW := hide (hr.later hAL.2.1 (Nat.le_refl _))
  have HST := hide (implStep_any W A (hA.later hAL.2.1 (Nat.le_refl _)) a n cap fs ha (hr.later hAL.2.1 (Nat.le_refl _)) hn hz c u d hu hu2 44 #[.pointer (some ⟨w.heap.size + 1 + 1, 0, none⟩), .pointer (some ⟨w.heap.size + 1, 0, none⟩)] (enters_of Tryd.func44 (by kernel_rfl) rfl) (renC fs nm t) (renC_code fs nm t) (renR fs nm t)
    (fun q h => renR_rising (rising_of q) nm t h)
    (fun W' => W'.cell? ⟨w.heap.size + 1 + 1, 0, none⟩ = some (.string t) ∧ W'.cell? ⟨w.heap.size + 1, 0, none⟩ = some (.string nm))
    (fun W' hb => ⟨by rw [cell_of_row W' _ _ _ _ _ ((hb.block _ (by have := HSZ.out; omega)).trans HC2.out)]; rfl, by rw [cell_of_row W' _ _ _ _ _ ((hb.block _ (by have := HSZ.out; omega)).trans HC1.out)]; rfl⟩)
    (fun q => rename_change A fs (rising_of q) nm t hs ht (w.heap.size + 1 + 1) (w.heap.size + 1)))
  rw [renF_step] at HST
  clear hAL hr hA HRW
  go_enter Tryd.func21, Tryd.ntmps21
  go_wp2_with fail
  rw [← hW]
  clear hW
  refine HST.out.mono ?_
  rintro e w2 ⟨⟨a', cap', rfl, ho⟩, hb⟩
  obtain ⟨r0, r1, r2, r3, k0, k1, k2, k3⟩ := cells4 ((hb.block _ (by have := HSZ.out; omega)).trans HC3.out)
  have HO := hide (ho.mono (base' := w.heap.size + 4) (by have := HSZ.out; omega))
  have HB := hide (HB0.out.trans (hb.mono HB0.out.size))
  clear ho hb HST HC0 HC1 HC2 HC3
  go_wp2
  refine bodyPost_ret (v := .tuple #[.agg #[.slice a' (renF fs c u d nm t).1.length cap', .int .i64 c, .int .i64 (begU fs c u d), .bool (begD fs c u d)], .int .i64 (renF fs c u d nm t).2]) (by simp [results, Tryd.results21, go_sem, *]) rfl ⟨⟨a', cap', rfl, ?_⟩, ?_⟩
  · refine FOwn.mono ?_ (Nat.le_add_right _ 4)
    (repeat (first | with_reducible (refine FOwn.setCell ?_ _ _ (by dsimp only; omega)) | with_reducible (refine FOwn.drewO ?_) | with_reducible (exact HO.out)))
  · (repeat (first | with_reducible (refine Below.setCell ?_ (by dsimp only; omega) _) | with_reducible (refine Below.drew ?_) | with_reducible (exact HB.out)))

end Go.Proofs.YthhjomaccbpnbabDoor
