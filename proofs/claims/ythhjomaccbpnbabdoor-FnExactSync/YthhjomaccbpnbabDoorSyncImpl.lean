/-
  impl.Sync.
-/
import Derived.Test.YthhjomaccbpnbabDoorSyncC
import Derived.Test.YthhjomaccbpnbabDoorStepPlain
import Derived.Test.YthhjomaccbpnbabDoorStepImpl
import Derived.Test.YthhjomaccbpnbabDoorSpecs
namespace Go.Proofs.YthhjomaccbpnbabDoor
open Go.RowKit Go.Maps
open Plain

def synC (fs : List FileV) (nm : ByteArray) : Int := if findF fs nm < 0 then 3 else 0
def synR (fs : List FileV) (nm : ByteArray) : List FileV := fs.set (findF fs nm).toNat ⟨(fs.getD (findF fs nm).toNat zeroF).name, (fs.getD (findF fs nm).toNat zeroF).text, ((fs.getD (findF fs nm).toNat zeroF).text.size : Int)⟩
theorem synF_step (fs : List FileV) (c u : Int) (d : Bool) (nm : ByteArray) : stepF fs c u d (synC fs nm) (synR fs nm) = synF fs c u d nm := by
  unfold stepF synF synC synR
  by_cases h : begC fs c u d = 0
  · rw [if_pos h, if_pos h]
    by_cases h2 : findF fs nm < 0
    · simp [h2]
    · simp [h2]
  · rw [if_neg h, if_neg h]
theorem synF_len (fs : List FileV) (c u : Int) (d : Bool) (nm : ByteArray) : (synF fs c u d nm).1.length = fs.length := by
  unfold synF
  split
  · split
    · rfl
    · simp
  · rfl
theorem sync_change (A : SentA) (fs : List FileV) (hap : fs.Pairwise (fun f g => f.name ≠ g.name)) (nm : ByteArray) (hs : nm.size ≤ 1048576) (nb : Nat) :
    Change 42 #[.pointer (some ⟨nb, 0, none⟩)] A fs (synC fs nm) (synR fs nm) (fun W => W.cell? ⟨nb, 0, none⟩ = some (.string nm)) := by
  intro W B n hm hn hA hP
  by_cases h : findF fs nm < 0
  · refine (syncC_no W A hA B n nb fs hm nm hP (findF_none h) hs).mono ?_
    rintro e w' ⟨rfl, hg⟩
    have hc : synC fs nm = 3 := by unfold synC; rw [if_pos h]
    exact ⟨by rw [hc], fun e => by rw [hc] at e; omega, hg⟩
  · obtain ⟨k, hk, hkl, hkn⟩ := findF_name h
    have hc : synC fs nm = 0 := by unfold synC; rw [if_neg h]
    have hr : synR fs nm = fs.set k ⟨(fs[k]).name, (fs[k]).text, ((fs[k]).text.size : Int)⟩ := by unfold synR; rw [hk, Int.toNat_natCast, getD_of hkl]
    refine (syncC_yes W B n nb fs hm hn (fs[k]) (List.getElem_mem hkl) (by rw [hkn]; exact hP) (by rw [hkn]; omega)).mono ?_
    rintro e w' ⟨rfl, ⟨D, h1, h2⟩, hg⟩
    refine ⟨by rw [hc]; rfl, fun _ => ⟨_, ?_, D, h1.mono (by omega), h2⟩, hg⟩
    rw [hr]
    exact set_perm_others hap k hkl _

set_option maxRecDepth 100000 in
set_option maxHeartbeats 1000000 in
theorem implSync_any (w : World) (A : SentA) (hA : SentIn w A) (a : Option Addr) (n cap : Nat) (fs : List FileV) (ha : a = none ∨ ∃ g, a = some ⟨g, 0, none⟩) (hr : FRow w 0 a n fs) (hn : n ≤ 1048576) (hz : szFs fs ≤ 1048576) (c u : Int) (d : Bool) (hu : -9223372036854775808 ≤ u) (hu2 : u ≤ 9223372036854775807) (nm : ByteArray) (hs : nm.size ≤ 1048576) :
    Calls Tryd.prog 19 #[.agg #[.slice a n cap, .int .i64 c, .int .i64 u, .bool d], .string nm] w fun e w' => (∃ a' cap', e = .returned (.tuple #[.agg #[.slice a' (synF fs c u d nm).1.length cap', .int .i64 c, .int .i64 (begU fs c u d), .bool (begD fs c u d)], .int .i64 (synF fs c u d nm).2]) ∧ FOwn w' w.heap.size (.slice a' (synF fs c u d nm).1.length cap') (synF fs c u d nm).1) ∧ Below w.heap.size w w' := by
  obtain ⟨W, hW⟩ : ∃ W, W = ((w.alloc (.cells #[.slice a n cap, .int .i64 c, .int .i64 u, .bool d] 28)).alloc (.cells #[.string nm] 9)).alloc (.cells #[.slice none 0 0, .int .i64 0, .int .i64 0, .bool false] 28) := ⟨_, rfl⟩
  have hAL := alloc3 w (.cells #[.slice a n cap, .int .i64 c, .int .i64 u, .bool d] 28) (.cells #[.string nm] 9) (.cells #[.slice none 0 0, .int .i64 0, .int .i64 0, .bool false] 28)
  rw [← hW] at hAL
  have HSZ := hide hAL.1
  have HB0 := hide hAL.2.1
  have HC1 := hide hAL.2.2.2.1
  have HC2 := hide hAL.2.2.2.2
  have HST := hide (implStep_any W A (hA.later hAL.2.1 (Nat.le_refl _)) a n cap fs ha (hr.later hAL.2.1 (Nat.le_refl _)) hn hz c u d hu hu2 42 #[.pointer (some ⟨w.heap.size + 1, 0, none⟩)] (enters_of Tryd.func42 (by kernel_rfl) rfl) (synC fs nm) (by unfold synC; split <;> omega) (synR fs nm)
    (fun q h => by
      have hf : ¬ findF fs nm < 0 := fun h2 => by unfold synC at h; rw [if_pos h2] at h; omega
      obtain ⟨k, hk, hkl, hkn⟩ := findF_name hf
      unfold synR
      rw [hk, Int.toNat_natCast, getD_of hkl]
      exact rising_set (rising_of q) k hkl _ rfl)
    (fun W' => W'.cell? ⟨w.heap.size + 1, 0, none⟩ = some (.string nm))
    (fun W' hb => by rw [cell_of_row W' _ _ _ _ _ ((hb.block _ (by have := HSZ.out; omega)).trans HC1.out)]; rfl)
    (fun q => sync_change A fs (rising_of q).apart nm hs (w.heap.size + 1)))
  rw [synF_step] at HST
  clear hAL hr hA
  go_enter Tryd.func19, Tryd.ntmps19
  go_wp2_with fail
  rw [← hW]
  clear hW
  refine HST.out.mono ?_
  rintro e w2 ⟨⟨a', cap', rfl, ho⟩, hb⟩
  obtain ⟨r0, r1, r2, r3, k0, k1, k2, k3⟩ := cells4 ((hb.block _ (by have := HSZ.out; omega)).trans HC2.out)
  have HO := hide (ho.mono (base' := w.heap.size + 3) (by have := HSZ.out; omega))
  have HB := hide (HB0.out.trans (hb.mono HB0.out.size))
  clear ho hb HST HC1 HC2
  go_wp2
  refine bodyPost_ret (v := .tuple #[.agg #[.slice a' (synF fs c u d nm).1.length cap', .int .i64 c, .int .i64 (begU fs c u d), .bool (begD fs c u d)], .int .i64 (synF fs c u d nm).2]) (by simp [results, Tryd.results19, go_sem, *]) rfl ⟨⟨a', cap', rfl, ?_⟩, ?_⟩
  · refine FOwn.mono ?_ (Nat.le_add_right _ 3)
    (repeat (first | with_reducible (refine FOwn.setCell ?_ _ _ (by dsimp only; omega)) | with_reducible (refine FOwn.drewO ?_) | with_reducible (exact HO.out)))
  · (repeat (first | with_reducible (refine Below.setCell ?_ (by dsimp only; omega) _) | with_reducible (refine Below.drew ?_) | with_reducible (exact HB.out)))

end Go.Proofs.YthhjomaccbpnbabDoor
