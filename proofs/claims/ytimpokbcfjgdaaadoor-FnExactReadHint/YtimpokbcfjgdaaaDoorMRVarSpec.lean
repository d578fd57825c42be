/-
  What spec.ReadVar answers at every text of at most 1048576 bytes; it makes new memory only.
-/
import Derived.Test.YtimpokbcfjgdaaaDoorG06
import Derived.Test.YtimpokbcfjgdaaaDoorG04
namespace Go.Proofs.YtimpokbcfjgdaaaDoor
open Go.RowKit
open Plain

set_option maxRecDepth 100000 in
set_option maxHeartbeats 1000000 in
theorem specReadVar_any (s : ByteArray) (w : World) (hs : s.size ≤ 1048576) :
    Calls Tryd.prog 43 #[.string s] w fun e w' => (∃ n k : Nat, e = .returned (.tuple #[.int .i64 n, .int .i64 k]) ∧ RV s n k) ∧ Below w.heap.size w w' := by
  go_enter Tryd.func43, Tryd.ntmps43
  go_wp2
  go_loopw [4] (fun a wr => ∃ k : Nat, 1 ≤ k ∧ k ≤ 8 ∧ k ≤ s.size + 1 ∧ a = .int .i64 k ∧ Hid (∀ j, 1 ≤ j → j < k → ¬ IsVar ((bl s).take j)) ∧ Below w.heap.size w wr) (fun a _ => 9 - (intOf a).toNat)
  case atStart => exact ⟨1, by omega, by omega, by omega, rfl, hide (by intro j h1 h2; omega), Below.refl _ _⟩
  case round =>
    obtain ⟨k, hk1, hk8, hks, rfl, HA, hB⟩ := hrel
    by_cases hk7 : k ≤ 7
    · by_cases hk2 : k ≤ s.size
      · go_wp2
        go_loopw [5, 6] (fun n i wx => ∃ t : Nat, t ≤ k ∧ i = .int .i64 ((t : Int) - 1) ∧ n = .int .i64 (vval (((bl s).take k).drop t)) ∧ wx = wr) (fun _ i _ => (intOf i + 1).toNat)
        case atStart => exact ⟨k, Nat.le_refl _, rfl, by rw [List.drop_of_length_le (by rw [List.length_take]; omega)]; rfl, rfl⟩
        case round =>
          obtain ⟨t, ht, rfl, rfl, rfl⟩ := hrel
          cases t with
          | zero =>
            have hV := vval_bd ((bl s).take k) (by rw [List.length_take]; omega)
            rw [List.drop_zero]
            have heq := var_eq_iff s k
            by_cases hv : IsVar ((bl s).take k)
            · have he := heq.2 hv
              have HR : Hid (RV s (vval ((bl s).take k)) k) := hide (Or.inl ⟨hk1, hk7, hk2, hv, rfl, HA.out⟩)
              clear heq hv HA
              generalize vval ((bl s).take k) = V at *
              go_wp2
              go_region_with (go_at_call 16; refine (specVar_yes V _ hV).mono ?_; rintro e w2 ⟨rfl, hb2⟩)
              all_goals
                have hB2 : Below w.heap.size w w2 := hB.drew.trans (hb2.mono hB.size)
                clear hb2
                go_wp2
                go_ret2
                exact ⟨⟨V, k, rfl, HR.out⟩, hB2⟩
            · have he : ((strOfNums (vb (vval ((bl s).take k)))).toList == (s.extract 0 k).toList) = false := by
                cases hq : ((strOfNums (vb (vval ((bl s).take k)))).toList == (s.extract 0 k).toList) with
                | false => rfl
                | true => exact absurd (heq.1 hq) hv
              have HN := hide hv
              clear heq hv
              generalize vval ((bl s).take k) = V at *
              go_wp2
              go_region_with (go_at_call 16; refine (specVar_yes V _ hV).mono ?_; rintro e w2 ⟨rfl, hb2⟩)
              all_goals
                have hB2 : Below w.heap.size w w2 := hB.drew.trans (hb2.mono hB.size)
                clear hb2
                go_wp2
                go_roundw
                case rel => exact ⟨k + 1, by omega, by omega, by omega, by go_num, hide (by
                  intro j h1 h2
                  by_cases hj : j < k
                  · exact HA.out j h1 hj
                  · obtain rfl : j = k := by omega
                    exact HN.out), hB2⟩
                case measure => simp [intOf]; omega
          | succ t =>
            have ht2 : t < s.size := by omega
            have hc := UInt8.toNat_lt s[t]
            have hget : ((bl s).take k)[t]? = some s[t].toNat := by rw [List.getElem?_take, if_pos (by omega)]; exact bl_get s t ht2
            have HV := hide (vval_drop _ t _ hget)
            have hbd := vval_bd (((bl s).take k).drop t) (by rw [List.length_drop, List.length_take]; omega)
            rw [HV.out] at hbd
            generalize vval (((bl s).take k).drop (t + 1)) = V at *
            have e0 : ((t + 1 : Nat) : Int) - 1 = (t : Int) := by omega
            rw [e0]
            go_wp2
            go_roundw
            case rel => exact ⟨t, by omega, by go_num, val_int (by rw [HV.out]; omega), by first | rfl | trivial⟩
            case measure => first | (simp [intOf]; done) | (simp [intOf]; omega)
      · go_wp2
        go_ret2
        exact ⟨⟨0, 0, rfl, Or.inr ⟨rfl, rfl, fun j h1 h2 h3 => HA.out j h1 (by omega)⟩⟩, hB⟩
    · go_wp2
      go_ret2
      exact ⟨⟨0, 0, rfl, Or.inr ⟨rfl, rfl, fun j h1 h2 h3 => HA.out j h1 (by omega)⟩⟩, hB⟩

end Go.Proofs.YtimpokbcfjgdaaaDoor
