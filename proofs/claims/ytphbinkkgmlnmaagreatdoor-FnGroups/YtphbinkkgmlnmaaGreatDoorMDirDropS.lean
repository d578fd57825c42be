/-
  spec.DirDrop.
-/
import Derived.Test.YtphbinkkgmlnmaaGreatDoorG15
namespace Go.Proofs.YtphbinkkgmlnmaaGreatDoor
open Go.RowKit
open Plain

set_option maxRecDepth 100000 in
set_option maxHeartbeats 1000000 in
theorem specDrop_any (w : World) (a : Option Addr) (n cap : Nat) (xs : List EntV) (key : ByteArray) (hr : entSh.Row w a n xs) (hn : n ≤ 4194304) :
    Calls Tryz.prog 51 #[.slice a n cap, .string key] w fun e w' => (∃ a' n' cap', e = .returned (.slice a' n' cap') ∧ entSh.Own 59 w' w.heap.size (.slice a' n' cap') (dropE xs key)) ∧ Below w.heap.size w w' := by
  have hlen := hr.len
  have HR := hide hr
  have HO0 := hide (Shape.Own.empty entSh 59 w)
  have HB0 := hide (al1 w (.cells #[] 59))
  clear hr
  go_enter Tryz.func51, Tryz.ntmps51
  go_wp2
  go_loopw [5, 6] (fun v i wr => ∃ (k : Nat) (a' : Option Addr) (n' c' : Nat), k ≤ n ∧ v = .slice a' n' c' ∧ i = .int .i64 k ∧ Hid (entSh.Own 59 wr w.heap.size (.slice a' n' c') (dropE (xs.take k) key)) ∧ Hid (Below w.heap.size w wr)) (fun _ i _ => n - (intOf i).toNat)
  case atStart => exact ⟨0, _, 0, 0, by omega, rfl, rfl, HO0, HB0⟩
  case round =>
    clear HO0 HB0
    obtain ⟨k, a', n', c', hk, rfl, rfl, HO, HB⟩ := hrel
    by_cases hlt : k < n
    · have hkf : k < xs.length := by omega
      obtain ⟨b, off, rfl, hbw, e0, e1, e2, e3, e4⟩ := ent_cells (HR.out.later HB.out) k hkf
      have hl := dropE_len (xs.take k) key
      rw [List.length_take] at hl
      have HSZ := hide HB.out.size
      by_cases hq : (xs[k]).key = key
      · have t1 := str_eq _ _ hq
        have HE := hide (dropE_succ_eq xs key k hkf hq)
        clear hq
        go_wp2
        go_roundw
        case rel => exact ⟨k + 1, a', n', c', by omega, rfl, by go_num, by rw [HE.out]; exact HO, HB⟩
        case measure => first | (simp [intOf]; done) | (simp [intOf]; omega)
      · have t1 := str_ne _ _ hq
        have HE := hide (dropE_succ_ne xs key k hkf hq)
        clear hq
        obtain ⟨z, hz⟩ : ∃ z, xs[k] = z := ⟨_, rfl⟩
        rw [hz] at e0 e1 e2 e3 e4 t1 HE
        clear hz
        go_wp2_with (at_builtin; refine wpList_app_ent rfl _ _ rfl z HO.out HSZ.out (by omega) rfl rfl rfl ?_; intro a3 n3 cap3 w3 hn3 ho3 hb3; clear hn3)
        have HO3 := hide ho3
        have HB3 := hide (HB.out.trans hb3)
        clear ho3 hb3 HO HB
        go_roundw
        case rel => exact ⟨k + 1, a3, n3, cap3, by omega, rfl, by go_num, by rw [HE.out]; exact HO3, HB3⟩
        case measure => first | (simp [intOf]; done) | (simp [intOf]; omega)
    · obtain rfl : k = n := by omega
      have HT : Hid (xs.take k = xs) := hide (List.take_of_length_le (by omega))
      go_wp2
      go_ret
      exact ⟨⟨a', n', c', rfl, by have h := HO.out; rw [HT.out] at h; exact h⟩, HB.out⟩

end Go.Proofs.YtphbinkkgmlnmaaGreatDoor
