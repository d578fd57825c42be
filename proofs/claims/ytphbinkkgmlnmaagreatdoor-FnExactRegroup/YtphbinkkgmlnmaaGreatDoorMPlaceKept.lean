/-
  spec.l9Kept.
-/
import Derived.Test.YtphbinkkgmlnmaaGreatDoorG11
namespace Go.Proofs.YtphbinkkgmlnmaaGreatDoor
open Go.RowKit
open Plain

set_option maxRecDepth 100000 in
set_option maxHeartbeats 4000000 in
theorem specKept_any (w : World) (a : Option Addr) (n cap : Nat) (xs : List PlaceV) (hr : plSh.Row w a n xs) (hn : n ≤ 1048576) (e : Nat) (he : e ≤ n):
    Calls Tryz.prog 30 #[.slice a n cap, .int .i64 (e : Int)] w fun x w' => (∃ a' n' cap', x = .returned (.slice a' n' cap') ∧ plSh.Own 37 w' w.heap.size (.slice a' n' cap') (keptP (xs.take e))) ∧ Below w.heap.size w w' := by
  have hlen := hr.len
  have HR := hide hr
  have HO0 := hide (Shape.Own.empty plSh 37 w)
  have HB0 := hide (al1 w (.cells #[] 37))
  clear hr
  go_enter Tryz.func30, Tryz.ntmps30
  go_wp2
  go_loopw [5, 6] (fun v i wr => ∃ (k : Nat) (a' : Option Addr) (n' c' : Nat), k ≤ e ∧ v = .slice a' n' c' ∧ i = .int .i64 k ∧ Hid (plSh.Own 37 wr w.heap.size (.slice a' n' c') (keptP (xs.take k))) ∧ Hid (Below w.heap.size w wr)) (fun _ i _ => e - (intOf i).toNat)
  case atStart => exact ⟨0, _, 0, 0, by omega, rfl, rfl, HO0, HB0⟩
  case round =>
    clear HO0 HB0
    obtain ⟨k, a', n', c', hk, rfl, rfl, HO, HB⟩ := hrel
    by_cases hlt : k < e
    · have hkf : k < xs.length := by omega
      have hkn : k < n := by omega
      obtain ⟨bb, off, rfl, hbw, e0, e1, e2, e3, e4, e5, e6, e7, e8⟩ := pl_cells (HR.out.later HB.out) k hkf
      have HSZ := hide HB.out.size
      have HE : Hid (keptP (xs.take (k + 1)) = kpStep (keptP (xs.take k)) (xs[k])) := hide (by rw [take_snoc xs k hkf, keptP_snoc])
      have hl : (keptP (xs.take k)).length ≤ 1048576 := by
        have := keptP_len (xs.take k)
        rw [List.length_take] at this
        omega
      obtain ⟨z, hz⟩ : ∃ z, xs[k] = z := ⟨_, rfl⟩
      rw [hz] at e0 e1 e2 e3 e4 e5 e6 e7 e8 HE
      clear hz
      have hwn : bb < wr.heap.size := hbw
      have HBA := hide (HB.out.alloc HB.out.size (.cells #[.int .i64 z.r.kind, .int .i64 z.r.batch, .string z.r.key, .string z.r.val, .int .i64 z.r.cnt, .int .i64 z.r.sum] 35))
      have HOA := hide (HO.out.later (al1 wr (.cells #[.int .i64 z.r.kind, .int .i64 z.r.batch, .string z.r.key, .string z.r.val, .int .i64 z.r.cnt, .int .i64 z.r.sum] 35)) (Nat.le_refl _))
      by_cases h5 : z.r.kind = 5
      · have t5 := ieq _ _ h5
        have t4 := ine z.r.kind 4 (by omega)
        have HE2 : Hid (keptP (xs.take (k + 1)) = []) := hide (by rw [HE.out]; unfold kpStep; rw [if_pos h5])
        have HON := hide (Shape.Own.empty plSh 37 wr)
        have HBN := hide (HB.out.alloc HB.out.size (.cells #[] 37))
        have HON2 := hide (HON.out.mono HSZ.out)
        clear h5 HE HO HB HOA HBA HON
        go_wp2
        go_roundw
        case rel => exact ⟨k + 1, _, _, _, by omega, rfl, by go_num, by rw [HE2.out]; exact HON2, HBN⟩
        case measure => first | (simp [intOf]; done) | (simp [intOf]; omega)
      · have t5 := ine _ _ h5
        by_cases h4 : z.r.kind = 4
        · have t4 := ieq _ _ h4
          have HE2 : Hid (keptP (xs.take (k + 1)) = keptP (xs.take k) ++ [z]) := hide (by rw [HE.out]; unfold kpStep; rw [if_neg h5, if_pos h4])
          clear h5 h4 HE HOA HBA
          go_wp2_with (at_builtin; refine wpList_app_pl rfl _ _ rfl z HO.out HB.out.size (by omega) rfl rfl rfl ?_; intro a3 n3 cap3 w3 hn3 ho3 hb3; clear hn3)
          have HO3 := hide ho3
          have HB3 := hide (HB.out.trans hb3)
          clear ho3 hb3 HO HB
          go_roundw
          case rel => exact ⟨k + 1, a3, n3, cap3, by omega, rfl, by go_num, by rw [HE2.out]; exact HO3, HB3⟩
          case measure => first | (simp [intOf]; done) | (simp [intOf]; omega)
        · have t4 := ine _ _ h4
          have HE2 : Hid (keptP (xs.take (k + 1)) = keptP (xs.take k)) := hide (by rw [HE.out]; unfold kpStep; rw [if_neg h5, if_neg h4])
          clear h5 h4 HE HOA HBA
          go_wp2
          go_roundw
          case rel => exact ⟨k + 1, _, _, _, by omega, rfl, by go_num, by rw [HE2.out]; exact HO, HB⟩
          case measure => first | (simp [intOf]; done) | (simp [intOf]; omega)
    · obtain rfl : k = e := by omega
      go_wp2
      go_ret
      exact ⟨⟨a', n', c', rfl, HO.out⟩, HB.out⟩

end Go.Proofs.YtphbinkkgmlnmaaGreatDoor
