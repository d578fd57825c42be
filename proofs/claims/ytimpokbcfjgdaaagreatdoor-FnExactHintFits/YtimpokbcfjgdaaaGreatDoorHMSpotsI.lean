/-
  impl.placesOf and impl.entriesOf.
-/
import Derived.Test.YtimpokbcfjgdaaaGreatDoorHMKeptI
import Derived.Test.YtimpokbcfjgdaaaGreatDoorHMPutG
namespace Go.Proofs.YtimpokbcfjgdaaaGreatDoor
open Go.RowKit
open Plain

set_option maxRecDepth 100000 in
set_option maxHeartbeats 1000000 in
theorem implPlaces_any (w : World) (id : Int) (a : Option Addr) (n cap : Nat) (xs : List SpotV) (hr : spotSh.Row w a n xs) (hn : n ≤ 1048576) :
    Calls Tryz.prog 46 #[.int .i64 id, .slice a n cap] w fun e w' => (∃ a' n' cap', e = .returned (.slice a' n' cap') ∧ plSh.Own 45 w' w.heap.size (.slice a' n' cap') (xs.map (spotP id))) ∧ Below w.heap.size w w' := by
  have hlen := hr.len
  have HR := hide hr
  clear hr
  go_enter Tryz.func46, Tryz.ntmps46
  go_wp2
  go_loopw [5, 10] (fun v i wr => ∃ (k : Nat) (a' : Option Addr) (n' c' : Nat), k ≤ n ∧ v = .slice a' n' c' ∧ i = .int .i64 k ∧ Hid (plSh.Own 45 wr w.heap.size (.slice a' n' c') ((xs.take k).map (spotP id))) ∧ Hid (Below w.heap.size w wr)) (fun _ i _ => n - (intOf i).toNat)
  case atStart => exact ⟨0, none, 0, 0, by omega, rfl, rfl, hide (Shape.Own.nil plSh 45 w _), hide (Below.refl _ _)⟩
  case round =>
    obtain ⟨k, a', n', c', hk, rfl, rfl, HO, HB⟩ := hrel
    by_cases hlt : k < n
    · have hkf : k < xs.length := by omega
      have hk2 : (k : Int) < (n : Int) := by omega
      obtain ⟨b, off, rfl, hbw, e0, e1, e2, e3, e4, e5, e6, e7⟩ := sp_cells (HR.out.later HB.out) k hkf
      have HE : Hid ((xs.take (k + 1)).map (spotP id) = (xs.take k).map (spotP id) ++ [spotP id (xs[k])]) := hide (by rw [List.take_succ_eq_append_getElem hkf, List.map_append]; rfl)
      have hl : ((xs.take k).map (spotP id)).length ≤ 1048576 := by rw [List.length_map, List.length_take]; omega
      obtain ⟨z, hz⟩ : ∃ z, xs[k] = z := ⟨_, rfl⟩
      rw [hz] at e0 e1 e2 e3 e4 e5 e6 e7 HE
      clear hz
      have HBA := hide (HB.out.alloc HB.out.size (.cells #[.int .i64 (z.pos : Nat), .int .i64 (z.len : Nat), .int .i64 z.r.kind, .int .i64 z.r.batch, .string z.r.key, .string z.r.val, .int .i64 z.r.cnt, .int .i64 z.r.sum] 43))
      have HOA := hide (HO.out.later (al1 wr (.cells #[.int .i64 (z.pos : Nat), .int .i64 (z.len : Nat), .int .i64 z.r.kind, .int .i64 z.r.batch, .string z.r.key, .string z.r.val, .int .i64 z.r.cnt, .int .i64 z.r.sum] 43)) (Nat.le_refl _))
      go_wp2_with (at_builtin; refine wpList_app_pl rfl _ _ rfl (spotP id z) HOA.out HBA.out.size (by omega) rfl rfl (World.size_alloc _ _) ?_; intro a3 n3 cap3 w3 hn3 ho3 hb3; clear hn3)
      have HO3 := hide ho3
      have HB3 := hide (HBA.out.trans hb3)
      clear ho3 hb3 HO HB HOA HBA
      go_roundw
      case rel => exact ⟨k + 1, a3, n3, cap3, by omega, rfl, by go_num, by rw [HE.out]; exact HO3, HB3⟩
      case measure => first | (simp [intOf]; done) | (simp [intOf]; omega)
    · obtain rfl : k = n := by omega
      have HT : Hid (xs.take k = xs) := hide (List.take_of_length_le (by omega))
      go_wp2
      go_ret
      exact ⟨⟨a', n', c', rfl, by have h := HO.out; rw [HT.out] at h; exact h⟩, HB.out⟩

set_option maxRecDepth 100000 in
set_option maxHeartbeats 1000000 in
theorem implEntries_any (w : World) (a : Option Addr) (n cap : Nat) (xs : List PlaceV) (hr : plSh.Row w a n xs) (hn : n ≤ 1048576) :
    Calls Tryz.prog 47 #[.slice a n cap] w fun e w' => (∃ a' n' cap', e = .returned (.slice a' n' cap') ∧ entSh.Own 71 w' w.heap.size (.slice a' n' cap') (xs.map entOf)) ∧ Below w.heap.size w w' := by
  have hlen := hr.len
  have HR := hide hr
  clear hr
  go_enter Tryz.func47, Tryz.ntmps47
  go_wp2
  go_loopw [3, 8] (fun v i wr => ∃ (k : Nat) (a' : Option Addr) (n' c' : Nat), k ≤ n ∧ v = .slice a' n' c' ∧ i = .int .i64 k ∧ Hid (entSh.Own 71 wr w.heap.size (.slice a' n' c') ((xs.take k).map entOf)) ∧ Hid (Below w.heap.size w wr)) (fun _ i _ => n - (intOf i).toNat)
  case atStart => exact ⟨0, none, 0, 0, by omega, rfl, rfl, hide (Shape.Own.nil entSh 71 w _), hide (Below.refl _ _)⟩
  case round =>
    obtain ⟨k, a', n', c', hk, rfl, rfl, HO, HB⟩ := hrel
    by_cases hlt : k < n
    · have hkf : k < xs.length := by omega
      have hk2 : (k : Int) < (n : Int) := by omega
      obtain ⟨b, off, rfl, hbw, e0, e1, e2, e3, e4, e5, e6, e7, e8⟩ := pl_cells (HR.out.later HB.out) k hkf
      have HE : Hid ((xs.take (k + 1)).map entOf = (xs.take k).map entOf ++ [entOf (xs[k])]) := hide (by rw [take_snoc xs k hkf, List.map_append]; rfl)
      have hl : ((xs.take k).map entOf).length ≤ 1048576 := by rw [List.length_map, List.length_take]; omega
      obtain ⟨z, hz⟩ : ∃ z, xs[k] = z := ⟨_, rfl⟩
      rw [hz] at e0 e1 e2 e3 e4 e5 e6 e7 e8 HE
      clear hz
      have HBA := hide (HB.out.alloc HB.out.size (.cells #[.int .i64 z.seg, .int .i64 z.pos, .int .i64 z.len, .int .i64 z.r.kind, .int .i64 z.r.batch, .string z.r.key, .string z.r.val, .int .i64 z.r.cnt, .int .i64 z.r.sum] 45))
      have HOA := hide (HO.out.later (al1 wr (.cells #[.int .i64 z.seg, .int .i64 z.pos, .int .i64 z.len, .int .i64 z.r.kind, .int .i64 z.r.batch, .string z.r.key, .string z.r.val, .int .i64 z.r.cnt, .int .i64 z.r.sum] 45)) (Nat.le_refl _))
      have HEN := hide (entryOf_any z)
      go_wp2_with fail
      refine (HEN.out _).mono ?_
      rintro e w2 ⟨rfl, hb2⟩
      have HO2 := hide (HOA.out.later hb2 (Nat.le_refl _))
      have HB2 := hide (HBA.out.trans (hb2.mono HBA.out.size))
      clear hb2 HOA HBA HO HB e0 e1 e2 e3 e4 e5 e6 e7 e8 HEN
      go_wp2_with (at_builtin; refine wpList_app_ent rfl _ _ rfl (entOf z) HO2.out HB2.out.size (by omega) rfl rfl rfl ?_; intro a3 n3 cap3 w3 hn3 ho3 hb3; clear hn3)
      have HO3 := hide ho3
      have HB3 := hide (HB2.out.trans hb3)
      clear ho3 hb3 HO2 HB2
      go_roundw
      case rel => exact ⟨k + 1, a3, n3, cap3, by omega, rfl, by go_num, by rw [HE.out]; exact HO3, HB3⟩
      case measure => first | (simp [intOf]; done) | (simp [intOf]; omega)
    · obtain rfl : k = n := by omega
      have HT : Hid (xs.take k = xs) := hide (List.take_of_length_le (by omega))
      go_wp2
      go_ret
      exact ⟨⟨a', n', c', rfl, by have h := HO.out; rw [HT.out] at h; exact h⟩, HB.out⟩

end Go.Proofs.YtimpokbcfjgdaaaGreatDoor
