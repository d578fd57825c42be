/-
  What spec.Var answers at every number; it makes new memory only. What spec.Fixed answers at every number and every width; it makes new memory only. What spec.ReadFixed answers, at every text of at most 1048576 bytes and every width; it leaves the world as it was. What spec.ReadVar answers at every text of at most 1048576 bytes; it makes new memory only.
-/
import Derived.Test.YtkcjlalkniaapaaDoorBA
namespace Go.Proofs.YtkcjlalkniaapaaDoor
open Go.RowKit
open Plain

set_option maxHeartbeats 400000 in
theorem specVar_no (n : Int) (w : World) (h : n < 0 ∨ 562949953421311 < n) :
    Calls Tryd.prog 44 #[.int .i64 n] w fun e w' => e = .returned (.string ⟨#[]⟩) ∧ w = w' := by
  have hin : decide (0 ≤ n ∧ n ≤ 562949953421311) = false := by simp; omega
  go_enter Tryd.func44, Tryd.ntmps44
  go_wp2_with (go_at_call 50; refine (in_any _ _ _ _).mono ?_; rw [hin]; rintro e w' ⟨rfl, rfl⟩)
  go_ret
  exact ⟨rfl, rfl⟩

set_option maxRecDepth 100000 in
set_option maxHeartbeats 400000 in
theorem specVar_yes (n : Nat) (w : World) (hn : n ≤ 562949953421311) :
    Calls Tryd.prog 44 #[.int .i64 n] w fun e w' => e = .returned (.string (strOfNums (vb n))) ∧ Below w.heap.size w w' := by
  have hin : decide ((0:Int) ≤ n ∧ (n:Int) ≤ 562949953421311) = true := by simp; omega
  have H7 := vb_len7 n hn
  go_enter Tryd.func44, Tryd.ntmps44
  go_wp2_with (go_at_call 50; refine (in_any _ _ _ _).mono ?_; rw [hin]; rintro e w' ⟨rfl, rfl⟩)
  go_loopw [0, 3] (fun a v wr => ∃ (q : Nat) (p : List Int), q ≤ 562949953421311 ∧ a = .int .i64 q ∧ wr.ownsRow w.heap.size 5 1 v p.length (p.map (Value.int .u8)) ∧ Hid (p ++ vb q = vb n) ∧ Below w.heap.size w wr) (fun a _ _ => (intOf a).toNat)
  case atStart => exact ⟨n, [], hn, rfl, World.ownsRow_lit w #[] 0 (Nat.le_refl _) (by unfold maxLen; omega) rfl, hide rfl, (Below.refl _ _).alloc (Nat.le_refl _) _⟩
  case round =>
    obtain ⟨q, p, hq, rfl, hown, HP, hB⟩ := hrel
    have hpl : p.length ≤ 7 := by have := congrArg List.length HP.out; simp at this; omega
    by_cases hs : q < 128
    · go_wp2_with (at_builtin; refine wpList_app_byte rfl (.tmp 19) (.tmp 22) rfl hown hB.size _ (by omega) rfl rfl ?_; intro v' w2 hown2 hB2; have hcv := cv_own (L := vb n) (by rw [← HP.out, vb_small q hs]; simpa using hown2))
      go_ret
      exact ⟨rfl, hB.trans ‹_›⟩
    · go_wp2_with (at_builtin; refine wpList_app_byte rfl (.tmp 10) (.tmp 15) rfl hown hB.size _ (by omega) rfl rfl ?_; intro v' w2 hown2 hB2)
      rename_i v' w2 hown2 hB2
      go_roundw
      case rel => exact ⟨q / 128, p ++ [128 + (q : Int) % 128], by omega, by go_num, by simpa using hown2, hide (by rw [← HP.out, vb_big q hs]; simp), hB.trans hB2⟩
      case measure => simp [intOf]; omega

end Go.Proofs.YtkcjlalkniaapaaDoor
namespace Go.Proofs.YtkcjlalkniaapaaDoor
open Go.RowKit
open Plain

set_option maxHeartbeats 400000 in
theorem specFixed_no (n m : Int) (w : World) (h : n < 0 ∨ m < 1 ∨ 7 < m) :
    Calls Tryd.prog 45 #[.int .i64 n, .int .i64 m] w fun e w' => e = .returned (.string ⟨#[]⟩) ∧ w = w' := by
  by_cases h1 : 1 ≤ m ∧ m ≤ 7
  · have hin : decide (1 ≤ m ∧ m ≤ 7) = true := by simpa using h1
    go_enter Tryd.func45, Tryd.ntmps45
    go_wp2_with (go_at_call 50; refine (in_any _ _ _ _).mono ?_; rw [hin]; rintro e w' ⟨rfl, rfl⟩)
    go_ret
    exact ⟨rfl, rfl⟩
  · have hin : decide (1 ≤ m ∧ m ≤ 7) = false := by simpa using h1
    go_enter Tryd.func45, Tryd.ntmps45
    go_wp2_with (go_at_call 50; refine (in_any _ _ _ _).mono ?_; rw [hin]; rintro e w' ⟨rfl, rfl⟩)
    go_ret
    exact ⟨rfl, rfl⟩

set_option maxHeartbeats 400000 in
theorem specFixed_yes (n m : Nat) (w : World) (hn : n ≤ 9223372036854775807) (h1 : 1 ≤ m) (h2 : m ≤ 7) :
    Calls Tryd.prog 45 #[.int .i64 n, .int .i64 m] w fun e w' => e = .returned (.string (fixStr n m)) ∧ Below w.heap.size w w' := by
  have hin : decide ((1:Int) ≤ m ∧ (m:Int) ≤ 7) = true := by simp; omega
  go_enter Tryd.func45, Tryd.ntmps45
  go_wp2_with (go_at_call 50; refine (in_any _ _ _ _).mono ?_; rw [hin]; rintro e w' ⟨rfl, rfl⟩)
  go_loopw [0, 5, 6] (fun q o i wr => ∃ k : Nat, k ≤ m ∧ i = .int .i64 k ∧ q = .int .i64 ((n / 256 ^ k : Nat) : Int) ∧ o = .string (strOfNums (low n k)) ∧ Below w.heap.size w wr) (fun _ _ i _ => m - (intOf i).toNat)
  case atStart => exact ⟨0, Nat.zero_le _, rfl, by simp, by simp [low, strOfNums], Below.refl _ _⟩
  case round =>
    obtain ⟨k, hk, rfl, rfl, rfl, hB⟩ := hrel
    by_cases hlt : k < m
    · have HQ : Hid (n / 256 ^ (k + 1) = n / 256 ^ k / 256) := hide (div_step n k).symm
      have HL : Hid (low n (k + 1) = ((n / 256 ^ k % 256 : Nat) : Int) :: low n k) := hide (low_succ n k)
      have hq : n / 256 ^ k ≤ n := Nat.div_le_self _ _
      have ho : (strOfNums (low n k)).size ≤ 7 := by rw [strOfNums_size, low_length]; omega
      generalize hqq : n / 256 ^ k = q at *
      generalize hll : low n k = L at *
      have ho1 : (strOfNums [(q : Int) % 256]).size ≤ 1 := by rw [strOfNums_size]; simp
      clear hqq hll
      have hcv := cv_one wr
      go_wp2
      go_roundw
      case rel => exact ⟨k + 1, by omega, by go_num, val_int (by rw [HQ.out]; omega), by rw [strOfNums_append, HL.out]; rfl, hB.alloc hB.size _⟩
      case measure => simp [intOf]; omega
    · obtain rfl : k = m := by omega
      have hd := div_pos_iff n k
      have hpw : 0 < 256 ^ k := Nat.pow_pos (by omega)
      by_cases hbig : 256 ^ k ≤ n
      · have hp : 0 < n / 256 ^ k := hd.2 hbig
        have HF : Hid (fixStr n k = ⟨#[]⟩) := hide (by simp [fixStr]; omega)
        clear hd hbig hpw
        generalize n / 256 ^ k = q at *
        go_wp2
        go_ret
        exact ⟨by rw [HF.out]; rfl, hB⟩
      · have hp : n / 256 ^ k = 0 := Nat.div_eq_of_lt (by omega)
        have HF : Hid (fixStr n k = strOfNums (low n k)) := hide (by simp [fixStr]; omega)
        rw [hp]
        clear hd hbig hpw hp
        go_wp2
        go_ret
        exact ⟨by rw [HF.out]; rfl, hB⟩

end Go.Proofs.YtkcjlalkniaapaaDoor
namespace Go.Proofs.YtkcjlalkniaapaaDoor
open Go.RowKit
open Plain

set_option maxHeartbeats 400000 in
theorem specReadFixed_no (s : ByteArray) (n : Int) (w : World) (_hs : s.size ≤ 1048576) (h : n < 1 ∨ 7 < n ∨ s.size < n) :
    Calls Tryd.prog 69 #[.string s, .int .i64 n] w fun e w' => e = .returned (.tuple #[.int .i64 0, .bool false]) ∧ w = w' := by
  by_cases h1 : 1 ≤ n ∧ n ≤ 7
  · have hin : decide (1 ≤ n ∧ n ≤ 7) = true := by simpa using h1
    go_enter Tryd.func69, Tryd.ntmps69
    go_wp2_with (go_at_call 50; refine (in_any _ _ _ _).mono ?_; rw [hin]; rintro e w' ⟨rfl, rfl⟩)
    go_ret2
    exact ⟨rfl, rfl⟩
  · have hin : decide (1 ≤ n ∧ n ≤ 7) = false := by simpa using h1
    go_enter Tryd.func69, Tryd.ntmps69
    go_wp2_with (go_at_call 50; refine (in_any _ _ _ _).mono ?_; rw [hin]; rintro e w' ⟨rfl, rfl⟩)
    go_ret2
    exact ⟨rfl, rfl⟩

set_option maxHeartbeats 400000 in
theorem specReadFixed_yes (s : ByteArray) (m : Nat) (w : World) (hs : s.size ≤ 1048576) (h1 : 1 ≤ m) (h2 : m ≤ 7) (h3 : m ≤ s.size) :
    Calls Tryd.prog 69 #[.string s, .int .i64 m] w fun e w' => e = .returned (.tuple #[.int .i64 (fixVal s m), .bool true]) ∧ w = w' := by
  have hin : decide ((1:Int) ≤ m ∧ (m:Int) ≤ 7) = true := by simp; omega
  go_enter Tryd.func69, Tryd.ntmps69
  go_wp2_with (go_at_call 50; refine (in_any _ _ _ _).mono ?_; rw [hin]; rintro e w' ⟨rfl, rfl⟩)
  go_loop [6, 7] (fun n i => ∃ k : Nat, k ≤ m ∧ i = .int .i64 k ∧ n = .int .i64 (fixVal s k)) (fun _ i => m - (intOf i).toNat)
  case atStart => exact ⟨0, Nat.zero_le _, rfl, rfl⟩
  case round =>
    obtain ⟨k, hk, rfl, rfl⟩ := hrel
    by_cases hlt : k < m
    · have hb := fixVal_bd s k (by omega)
      have hk2 : k < s.size := by omega
      have hc := UInt8.toNat_lt s[k]
      have HS : Hid (fixVal s (k + 1) = fixVal s k * 256 + s[k].toNat) := by show _ = _; rw [fixVal, byteAt_eq s k hk2]
      go_wp2
      go_round
      case rel => exact ⟨k + 1, by omega, by go_num, val_int (by rw [HS.out]; omega)⟩
      case measure => simp [intOf]; omega
    · obtain rfl : k = m := by omega
      go_wp2
      go_ret2
      exact ⟨rfl, rfl⟩

end Go.Proofs.YtkcjlalkniaapaaDoor
namespace Go.Proofs.YtkcjlalkniaapaaDoor
open Go.RowKit
open Plain

set_option maxRecDepth 100000 in
set_option maxHeartbeats 1000000 in
theorem specReadVar_any (s : ByteArray) (w : World) (hs : s.size ≤ 1048576) :
    Calls Tryd.prog 47 #[.string s] w fun e w' => (∃ n k : Nat, e = .returned (.tuple #[.int .i64 n, .int .i64 k]) ∧ RV s n k) ∧ Below w.heap.size w w' := by
  go_enter Tryd.func47, Tryd.ntmps47
  go_wp2
  go_loopw [4] (fun a wr => ∃ k : Nat, 1 ≤ k ∧ k ≤ 8 ∧ k ≤ s.size + 1 ∧ a = .int .i64 k ∧ Hid (∀ j, 1 ≤ j → j < k → ¬ IsVar ((bl s).take j)) ∧ Below w.heap.size w wr) (fun a _ => 9 - (intOf a).toNat)
  case atStart => exact ⟨1, by omega, by omega, by omega, rfl, hide (by intro j h1 h2; omega), Below.refl _ _⟩
  case round =>
    obtain ⟨k, hk1, hk8, hks, rfl, HA, hB⟩ := hrel
    by_cases hk7 : k ≤ 7
    · by_cases hk2 : k ≤ s.size
      · go_wp2
        go_loopw [5, 6] (fun n i wx => ∃ t : Nat, t ≤ k ∧ i = .int .i64 ((t : Int) - 1) ∧ n = .int .i64 (vval (((bl s).take k).drop t)) ∧ wx = wr) (fun _ i _ => (intOf i + 1).toNat)
        case atStart => exact ⟨k, Nat.le_refl _, rfl, by rw [List.drop_of_length_le (by rw [List.length_take]; omega)]; rfl, rfl⟩
        case round =>
          obtain ⟨t, ht, rfl, rfl, rfl⟩ := hrel
          cases t with
          | zero =>
            have hV := vval_bd ((bl s).take k) (by rw [List.length_take]; omega)
            rw [List.drop_zero]
            have heq := var_eq_iff s k
            by_cases hv : IsVar ((bl s).take k)
            · have he := heq.2 hv
              have HR : Hid (RV s (vval ((bl s).take k)) k) := hide (Or.inl ⟨hk1, hk7, hk2, hv, rfl, HA.out⟩)
              clear heq hv HA
              generalize vval ((bl s).take k) = V at *
              go_wp2
              go_region_with (go_at_call 44; refine (specVar_yes V _ hV).mono ?_; rintro e w2 ⟨rfl, hb2⟩)
              all_goals
                have hB2 : Below w.heap.size w w2 := hB.drew.trans (hb2.mono hB.size)
                clear hb2
                go_wp2
                go_ret2
                exact ⟨⟨V, k, rfl, HR.out⟩, hB2⟩
            · have he : ((strOfNums (vb (vval ((bl s).take k)))).toList == (s.extract 0 k).toList) = false := by
                cases hq : ((strOfNums (vb (vval ((bl s).take k)))).toList == (s.extract 0 k).toList) with
                | false => rfl
                | true => exact absurd (heq.1 hq) hv
              have HN := hide hv
              clear heq hv
              generalize vval ((bl s).take k) = V at *
              go_wp2
              go_region_with (go_at_call 44; refine (specVar_yes V _ hV).mono ?_; rintro e w2 ⟨rfl, hb2⟩)
              all_goals
                have hB2 : Below w.heap.size w w2 := hB.drew.trans (hb2.mono hB.size)
                clear hb2
                go_wp2
                go_roundw
                case rel => exact ⟨k + 1, by omega, by omega, by omega, by go_num, hide (by
                  intro j h1 h2
                  by_cases hj : j < k
                  · exact HA.out j h1 hj
                  · obtain rfl : j = k := by omega
                    exact HN.out), hB2⟩
                case measure => simp [intOf]; omega
          | succ t =>
            have ht2 : t < s.size := by omega
            have hc := UInt8.toNat_lt s[t]
            have hget : ((bl s).take k)[t]? = some s[t].toNat := by rw [List.getElem?_take, if_pos (by omega)]; exact bl_get s t ht2
            have HV := hide (vval_drop _ t _ hget)
            have hbd := vval_bd (((bl s).take k).drop t) (by rw [List.length_drop, List.length_take]; omega)
            rw [HV.out] at hbd
            generalize vval (((bl s).take k).drop (t + 1)) = V at *
            have e0 : ((t + 1 : Nat) : Int) - 1 = (t : Int) := by omega
            rw [e0]
            go_wp2
            go_roundw
            case rel => exact ⟨t, by omega, by go_num, val_int (by rw [HV.out]; omega), by first | rfl | trivial⟩
            case measure => first | (simp [intOf]; done) | (simp [intOf]; omega)
      · go_wp2
        go_ret2
        exact ⟨⟨0, 0, rfl, Or.inr ⟨rfl, rfl, fun j h1 h2 h3 => HA.out j h1 (by omega)⟩⟩, hB⟩
    · go_wp2
      go_ret2
      exact ⟨⟨0, 0, rfl, Or.inr ⟨rfl, rfl, fun j h1 h2 h3 => HA.out j h1 (by omega)⟩⟩, hB⟩

end Go.Proofs.YtkcjlalkniaapaaDoor
