/-
  What impl.Var answers at every number; it makes new memory only. What impl.Fixed answers at every number and every width; it makes new memory only. What impl.ReadFixed answers, at every text of at most 1048576 bytes and every width; it leaves the world as it was. What impl.ReadVar answers at every text of at most 1048576 bytes; it leaves the world as it was.
-/
import Derived.Test.YtkcjlalkniaapaaDoorBA
namespace Go.Proofs.YtkcjlalkniaapaaDoor
open Go.RowKit
open Plain

set_option maxHeartbeats 400000 in
theorem implVar_no (n : Int) (w : World) (h : n < 0 ∨ 562949953421311 < n) :
    Calls Tryd.prog 58 #[.int .i64 n] w fun e w' => e = .returned (.string ⟨#[]⟩) ∧ w = w' := by
  by_cases h1 : n < 0
  · go_enter Tryd.func58, Tryd.ntmps58
    go_wp2
    go_ret
    exact ⟨rfl, rfl⟩
  · have h2 : 562949953421311 < n := by omega
    go_enter Tryd.func58, Tryd.ntmps58
    go_wp2
    go_ret
    exact ⟨rfl, rfl⟩

set_option maxRecDepth 100000 in
set_option maxHeartbeats 400000 in
theorem implVar_yes (n : Nat) (w : World) (hn : n ≤ 562949953421311) :
    Calls Tryd.prog 58 #[.int .i64 n] w fun e w' => e = .returned (.string (strOfNums (vb n))) ∧ Below w.heap.size w w' := by
  have H7 := vb_len7 n hn
  obtain ⟨i0, hi, hz0, hz1, hz2⟩ := info_parts Tryd.info5
  obtain ⟨w1, hmk0, hown, hgrow⟩ := run_make_full (P := Tryd.prog) w w.heap.size 22 5 i0 (.int .u8 0) 1 Tryd.underlying22 hi hz0 hz1 .i64 .i64 7 (by rw [hz2]; omega) (by unfold maxLen; omega) (Nat.le_refl _)
  have hmk : (Instr.makeSlice 22 (.int .i64 7) (.int .i64 7)).run Tryd.prog w = .ok (.slice (some ⟨w.heap.size, 0, none⟩) 7 7) w1 := hmk0
  have hB1 : Below w.heap.size w w1 := (Below.refl _ _).grown hgrow (Nat.le_refl _) (by intro k h; cases h)
  have HR : Hid (w1.heap[w.heap.size]? = some (.cells (rowOf 7 []).toArray 5 (0, 0))) := hide (by rw [made_row hown, rowOf_nil])
  clear hown hgrow hi hz0 hz1 hz2 hmk0
  go_enter Tryd.func58, Tryd.ntmps58
  go_wp2
  go_loopw [0, 4] (fun a v wr => ∃ (q : Nat) (p : List Int), q ≤ 562949953421311 ∧ a = .int .i64 q ∧ v = .int .i64 p.length ∧ Hid (wr.heap[w.heap.size]? = some (.cells (rowOf 7 p).toArray 5 (0, 0))) ∧ Hid (p ++ vb q = vb n) ∧ Below w.heap.size w wr) (fun a _ _ => (intOf a).toNat)
  case atStart => exact ⟨n, [], hn, rfl, rfl, HR, hide rfl, hB1⟩
  case round =>
    clear HR hB1 hmk
    obtain ⟨q, p, hq, rfl, rfl, HR, HP, hB⟩ := hrel
    have hpl : p.length + (vb q).length ≤ 7 := by have := congrArg List.length HP.out; simp at this; omega
    have hvp := vb_pos q
    have hlt2 : w.heap.size < wr.heap.size := lt_of_block HR.out
    by_cases hs : q < 128
    · go_wp2_with fail
      refine (put1 w.heap.size 7 w.heap.size p (q : Int) w wr (by omega) (by omega) HR hB hB.size (Nat.le_refl _)).mono ?_
      rintro e w2 ⟨rfl, HR2, hB2⟩
      have hL : p ++ [(q : Int)] = vb n := by rw [← HP.out, vb_small q hs]
      have hl : (vb n).length = p.length + 1 := by rw [← hL]; simp
      rw [hL] at HR2
      have hcv := cv_pre HR2.out hl
      clear HR2 HR hL hl HP
      go_wp2
      go_ret
      exact ⟨rfl, hB2⟩
    · have e1 := i64_and127 (q : Int)
      have e2 := or128 ((q : Int) % 128) (by omega) (by omega)
      have HP2 : Hid ((p ++ [128 + (q : Int) % 128]) ++ vb (q / 128) = vb n) := hide (by rw [← HP.out, vb_big q hs]; simp)
      have hv2 := vb_pos (q / 128)
      have hp2 : p.length + 2 ≤ 7 := by rw [vb_big q hs] at hpl; simp at hpl; omega
      go_wp2_with fail
      refine (put1 w.heap.size 7 w.heap.size p (128 + (q : Int) % 128) w wr (by omega) (by omega) HR hB hB.size (Nat.le_refl _)).mono ?_
      rintro e w2 ⟨rfl, HR2, hB2⟩
      clear HR HP e1 e2
      go_wp2
      go_roundw
      case rel => exact ⟨q / 128, _, by omega, by go_num, by simp, HR2, HP2, hB2⟩
      case measure => simp [intOf]; omega

end Go.Proofs.YtkcjlalkniaapaaDoor
namespace Go.Proofs.YtkcjlalkniaapaaDoor
open Go.RowKit
open Plain

set_option maxRecDepth 100000 in
set_option maxHeartbeats 400000 in
theorem implFixed_no (n m : Int) (w : World) (h : n < 0 ∨ m < 1 ∨ 7 < m) :
    Calls Tryd.prog 35 #[.int .i64 n, .int .i64 m] w fun e w' => e = .returned (.string ⟨#[]⟩) ∧ w = w' := by
  by_cases h1 : m < 1
  · go_enter Tryd.func35, Tryd.ntmps35
    go_wp2
    go_ret
    exact ⟨rfl, rfl⟩
  · by_cases h2 : 7 < m
    · go_enter Tryd.func35, Tryd.ntmps35
      go_wp2
      go_ret
      exact ⟨rfl, rfl⟩
    · have h3 : n < 0 := by omega
      go_enter Tryd.func35, Tryd.ntmps35
      go_wp2
      go_ret
      exact ⟨rfl, rfl⟩

def rowAt (L : List Int) (k : Nat) : List Value := (L.take k ++ List.replicate (L.length - k) 0).map (Value.int .u8)
theorem rowAt_len (L : List Int) (k : Nat) (h : k ≤ L.length) : (rowAt L k).length = L.length := by simp [rowAt]; omega
theorem rowAt_zero (L : List Int) : rowAt L 0 = List.replicate L.length (.int .u8 0) := by simp [rowAt]
theorem rowAt_full (L : List Int) : rowAt L L.length = L.map (Value.int .u8) := by simp [rowAt]
theorem rowAt_step (L : List Int) (k : Nat) (x : Int) (h : L[k]? = some x) : splice (rowAt L k) k [.int .u8 x] = rowAt L (k + 1) := by
  have hk : k < L.length := by
    rcases Nat.lt_or_ge k L.length with h' | h'
    · exact h'
    · rw [List.getElem?_eq_none h'] at h; simp at h
  have hx : L[k] = x := by rw [List.getElem?_eq_getElem hk] at h; simpa using h
  unfold splice rowAt
  rw [List.take_succ_eq_append_getElem hk, hx]
  have e : L.length - k = (L.length - (k + 1)) + 1 := by omega
  rw [e, List.replicate_succ]
  simp [List.drop_append, Nat.min_eq_left (Nat.le_of_lt hk)]

/-- A whole row of bytes of the call's own, as a string. -/
theorem cv_row {w : World} {g n k : Nat} {L : List Int} (h : w.heap[g]? = some (.cells (rowAt L k).toArray 5 (0, 0))) (hk : k = L.length) (hn : L.length = n) :
    (convert 22 9 (.slice (some ⟨g, 0, none⟩) n n)).run Tryd.prog w = .ok (.string (strOfNums L)) w := by
  subst hk
  refine run_convert_bytes_arg (P := Tryd.prog) w 22 5 Tryd.underlying22 Tryd.underlying5 g 0 n n L hn ?_ 9 Tryd.underlying9
  intro i hi
  rw [rowAt_full] at h
  have hi' : i < L.length := by omega
  simp [World.cell?, h, List.getD, hi']

theorem pow256 (k : Nat) : (2 : Nat) ^ (8 * k) = 256 ^ k := by rw [Nat.pow_mul]
theorem shr_pow (n k : Nat) : (n : Int) / 2 ^ (8 * k) = ((n / 256 ^ k : Nat) : Int) := by
  rw [← pow256]; norm_cast
theorem shr_byte (n k : Nat) : (n : Int) / 2 ^ (8 * k) % 256 = ((n / 256 ^ k % 256 : Nat) : Int) := by
  rw [shr_pow]
  generalize n / 256 ^ k = q
  omega

set_option maxRecDepth 100000 in
set_option maxHeartbeats 400000 in
theorem implFixed_great (n m : Nat) (w : World) (_hn : n ≤ 9223372036854775807) (h1 : 1 ≤ m) (h2 : m ≤ 7) (hb : 256 ^ m ≤ n) :
    Calls Tryd.prog 35 #[.int .i64 n, .int .i64 m] w fun e w' => e = .returned (.string ⟨#[]⟩) ∧ w = w' := by
  have hsh : ((n : Int) / 2 ^ (8 * m) != 0) = true := by
    rw [shr_pow]
    have := (div_pos_iff n m).2 hb
    simp only [bne_iff_ne, ne_eq]
    omega
  clear hb
  go_enter Tryd.func35, Tryd.ntmps35
  go_wp2
  go_ret
  exact ⟨rfl, rfl⟩

set_option maxRecDepth 100000 in
set_option maxHeartbeats 400000 in
theorem implFixed_fits (n m : Nat) (w : World) (hn : n ≤ 9223372036854775807) (h1 : 1 ≤ m) (h2 : m ≤ 7) (hb : n < 256 ^ m) :
    Calls Tryd.prog 35 #[.int .i64 n, .int .i64 m] w fun e w' => e = .returned (.string (strOfNums (low n m))) ∧ Below w.heap.size w w' := by
  have hsh : ((n : Int) / 2 ^ (8 * m) != 0) = false := by
    rw [shr_pow, Nat.div_eq_of_lt hb]; rfl
  clear hb
  obtain ⟨i0, hi, hz0, hz1, hz2⟩ := info_parts Tryd.info5
  obtain ⟨w1, hmk, hown, hgrow⟩ := run_make_full (P := Tryd.prog) w w.heap.size 22 5 i0 (.int .u8 0) 1 Tryd.underlying22 hi hz0 hz1 .i64 .i64 m (by rw [hz2]; omega) (by unfold maxLen; omega) (Nat.le_refl _)
  have hrow := made_row hown
  have hB1 : Below w.heap.size w w1 := (Below.refl _ _).grown hgrow (Nat.le_refl _) (by intro k h; cases h)
  have hlow := low_length n m
  have HL : Hid ((low n m).length = m) := hide hlow
  have HR : Hid (w1.heap[w.heap.size]? = some (.cells (rowAt (low n m) 0).toArray 5 (0, 0))) := hide (by rw [hrow, rowAt_zero, hlow])
  clear hown hgrow hrow hlow hi hz0 hz1 hz2
  go_enter Tryd.func35, Tryd.ntmps35
  go_wp2
  go_loopw [6, 28] (fun a i wr => ∃ k : Nat, k ≤ m ∧ a = .int .i64 k ∧ i = .int .i64 k ∧ Hid (wr.heap[w.heap.size]? = some (.cells (rowAt (low n m) k).toArray 5 (0, 0))) ∧ Below w.heap.size w wr) (fun _ i _ => m - (intOf i).toNat)
  case atStart => exact ⟨0, Nat.zero_le _, rfl, rfl, HR, hB1⟩
  case round =>
    clear HR hB1 hmk
    obtain ⟨k, hk, rfl, rfl, HR, hB⟩ := hrel
    by_cases hlt : k < m
    · have hx : (low n m)[k]? = some ((n : Int) / 2 ^ (8 * (m - 1 - k)) % 256) := by rw [low_get n m k hlt, shr_byte]
      go_wp2_with fail
      generalize (n : Int) / 2 ^ (8 * (m - 1 - k)) % 256 = x at *
      have hst := rowAt_step (low n m) k x hx
      have hlt2 : w.heap.size < wr.heap.size := lt_of_block HR.out
      have hg2 : (wr.alloc (.cells #[.int .u8 x] 5)).heap[w.heap.size]? = some (.cells (rowAt (low n m) k).toArray 5 (0, 0)) := by rw [Below.heap_alloc _ _ _ hlt2]; exact HR.out
      have hB2 : Below w.heap.size w (wr.alloc (.cells #[.int .u8 x] 5)) := hB.alloc hB.size _
      refine (put_any w.heap.size m k (rowAt (low n m) k) ⟨wr.heap.size, 0, none⟩ 1 [.int .u8 x] _ hg2 (by rw [rowAt_len _ _ (by rw [HL.out]; exact hk)]; exact HL.out) (by omega) rfl (by omega) (by omega) (src_one wr x) (one_one x)).mono ?_
      rintro e w2 ⟨rfl, hw2⟩
      have HR2 : Hid (w2.heap[w.heap.size]? = some (.cells (rowAt (low n m) (k + 1)).toArray 5 (0, 0))) := hide (by rw [hw2, ← hst]; exact setRow_heap _ _ _ _ _ _ hg2)
      have hB3 : Below w.heap.size w w2 := by rw [hw2]; exact below_setRow hB2 (Nat.le_refl _) _
      clear hw2 hg2 hst hx hB2 hlt2 HR hB
      go_wp2
      go_roundw
      case rel => exact ⟨k + 1, by omega, by go_num, by go_num, HR2, hB3⟩
      case measure => simp [intOf]; omega
    · obtain rfl : k = m := by omega
      have hcv : (convert 22 9 (.slice (some ⟨w.heap.size, 0, none⟩) k k)).run Tryd.prog wr = .ok (.string (strOfNums (low n k))) wr := cv_row HR.out (by rw [HL.out]) HL.out
      clear HR
      go_wp2
      go_ret
      exact ⟨rfl, hB⟩

theorem implFixed_yes (n m : Nat) (w : World) (hn : n ≤ 9223372036854775807) (h1 : 1 ≤ m) (h2 : m ≤ 7) :
    Calls Tryd.prog 35 #[.int .i64 n, .int .i64 m] w fun e w' => e = .returned (.string (fixStr n m)) ∧ Below w.heap.size w w' := by
  by_cases hb : n < 256 ^ m
  · have e : fixStr n m = strOfNums (low n m) := by simp [fixStr, hb]
    rw [e]
    exact implFixed_fits n m w hn h1 h2 hb
  · have e : fixStr n m = ⟨#[]⟩ := by simp [fixStr, hb]
    rw [e]
    refine (implFixed_great n m w hn h1 h2 (by omega)).mono ?_
    rintro e w' ⟨rfl, rfl⟩
    exact ⟨rfl, Below.refl _ _⟩

end Go.Proofs.YtkcjlalkniaapaaDoor
namespace Go.Proofs.YtkcjlalkniaapaaDoor
open Go.RowKit
open Plain

set_option maxHeartbeats 400000 in
theorem implReadFixed_no (s : ByteArray) (n : Int) (w : World) (_hs : s.size ≤ 1048576) (h : n < 1 ∨ 7 < n ∨ s.size < n) :
    Calls Tryd.prog 61 #[.string s, .int .i64 n] w fun e w' => e = .returned (.tuple #[.int .i64 0, .bool false]) ∧ w = w' := by
  by_cases h1 : n < 1
  · go_enter Tryd.func61, Tryd.ntmps61
    go_wp2
    go_ret2
    exact ⟨rfl, rfl⟩
  · by_cases h2 : 7 < n
    · go_enter Tryd.func61, Tryd.ntmps61
      go_wp2
      go_ret2
      exact ⟨rfl, rfl⟩
    · go_enter Tryd.func61, Tryd.ntmps61
      go_wp2
      go_ret2
      exact ⟨rfl, rfl⟩

set_option maxHeartbeats 400000 in
theorem implReadFixed_yes (s : ByteArray) (m : Nat) (w : World) (hs : s.size ≤ 1048576) (h1 : 1 ≤ m) (h2 : m ≤ 7) (h3 : m ≤ s.size) :
    Calls Tryd.prog 61 #[.string s, .int .i64 m] w fun e w' => e = .returned (.tuple #[.int .i64 (fixVal s m), .bool true]) ∧ w = w' := by
  go_enter Tryd.func61, Tryd.ntmps61
  go_wp2
  go_loop [6, 21] (fun n i => ∃ k : Nat, k ≤ m ∧ i = .int .i64 k ∧ n = .int .i64 (fixVal s k)) (fun _ i => m - (intOf i).toNat)
  case atStart => exact ⟨0, Nat.zero_le _, rfl, rfl⟩
  case round =>
    obtain ⟨k, hk, rfl, rfl⟩ := hrel
    by_cases hlt : k < m
    · have hb := fixVal_bd s k (by omega)
      have hk2 : k < s.size := by omega
      have hc := UInt8.toNat_lt s[k]
      have HS : Hid (fixVal s (k + 1) = fixVal s k * 256 + s[k].toNat) := by show _ = _; rw [fixVal, byteAt_eq s k hk2]
      go_wp2
      go_round
      case rel => exact ⟨k + 1, by omega, by go_num, val_int (by rw [HS.out]; rw [or_byte _ _ (by omega) (by omega) (by omega) (by omega)]; omega)⟩
      case measure => simp [intOf]; omega
    · obtain rfl : k = m := by omega
      go_wp2
      go_ret2
      exact ⟨rfl, rfl⟩

end Go.Proofs.YtkcjlalkniaapaaDoor
namespace Go.Proofs.YtkcjlalkniaapaaDoor
open Go.RowKit
open Plain

theorem and127_u8 (b : Nat) (h : b < 256) : bits .and .u8 (b : Int) 127 = ((b % 128 : Nat) : Int) := by
  have := u8_and_nat b 127 h (by omega)
  rw [nat_mask7] at this
  exact this
theorem pow128 (k : Nat) : (2 : Nat) ^ (7 * k) = 128 ^ k := by rw [Nat.pow_mul]
theorem pow128_le (k : Nat) (h : k ≤ 6) : 128 ^ k ≤ 4398046511104 := by
  have h2 : 128 ^ k ≤ 128 ^ 6 := Nat.pow_le_pow_right (by omega) h
  have h3 : (128 : Nat) ^ 6 = 4398046511104 := by decide
  omega

/-- 'n |= int(c&127) << (7 * i)'. -/
theorem or_step (l : List Nat) (b k : Nat) (hl : l.length = k) (hk : k ≤ 6) : bits .or .i64 ((vval l : Nat) : Int) (wrap64 ((b : Int) % 128 * 2 ^ (7 * k))) = ((vval (l ++ [b]) : Nat) : Int) := by
  have h1 := vval_lt l
  rw [hl] at h1
  have h2 := pow128_le k hk
  have h3 := Nat.mod_lt b (show 0 < 128 by omega)
  have e : (b : Int) % 128 * 2 ^ (7 * k) = ((b % 128 * 128 ^ k : Nat) : Int) := by rw [← pow128 k]; norm_cast
  have h4 : b % 128 * 128 ^ k ≤ 127 * 4398046511104 := Nat.mul_le_mul (by omega) h2
  rw [e, IntWalk.wrap64_in _ ⟨by omega, by omega⟩, i64_or_nat _ _ (by omega) (by omega), vval_snoc, hl, Nat.or_comm, nat_join (7 * k) _ _ (by rw [pow128]; exact Nat.mul_mod_left _ _) (by rw [pow128]; exact h1), Nat.add_comm]

set_option maxRecDepth 100000 in
set_option maxHeartbeats 400000 in
theorem implReadVar_any (s : ByteArray) (w : World) (hs : s.size ≤ 1048576) :
    Calls Tryd.prog 76 #[.string s] w fun e w' => (∃ n k : Nat, e = .returned (.tuple #[.int .i64 n, .int .i64 k]) ∧ RV s n k) ∧ w = w' := by
  obtain ⟨m, hm, hms, hm7⟩ : ∃ m : Nat, ((min (s.size : Int) 7) = (m : Int)) ∧ m ≤ s.size ∧ m ≤ 7 := ⟨min s.size 7, by omega, by omega, by omega⟩
  have HM : Hid (m = 7 ∨ m = s.size) := hide (by omega)
  go_enter Tryd.func76, Tryd.ntmps76
  go_wp2
  all_goals
    go_loop [4, 9] (fun n i => ∃ k : Nat, k ≤ m ∧ i = .int .i64 k ∧ n = .int .i64 (vval ((bl s).take k)) ∧ Hid (∀ j, j < k → 128 ≤ (bl s).getD j 0)) (fun _ i => m - (intOf i).toNat)
    case atStart => exact ⟨0, Nat.zero_le _, rfl, rfl, hide (by intro j hj; omega)⟩
    case round =>
      obtain ⟨k, hk, rfl, rfl, HA⟩ := hrel
      by_cases hlt : k < m
      · have hk2 : k < s.size := by omega
        have hc := UInt8.toNat_lt s[k]
        have e1 := and127_u8 s[k].toNat hc
        have HN : Hid (bits .or .i64 ((vval ((bl s).take k) : Nat) : Int) (wrap64 ((s[k].toNat : Int) % 128 * 2 ^ (7 * k))) = ((vval ((bl s).take (k + 1)) : Nat) : Int)) := hide (by
          rw [bl_take_succ s k hk2]
          exact or_step _ _ k (by rw [List.length_take, bl_length]; omega) (by omega))
        have HG := hide (getD_bl s k hk2)
        by_cases hbig : s[k].toNat < 128
        · by_cases hk0 : 0 < k
          · by_cases hz : s[k].toNat = 0
            · have hz2 : ((s[k].toNat : Int) == 0) = true := by simp [hz]
              have HZ := hide hz
              clear hz
              go_wp2
              go_ret2
              exact ⟨⟨0, 0, rfl, RV_nought s k (by omega) hk2 HA.out hk0 (by rw [HG.out]; exact HZ.out)⟩, rfl⟩
            · have hz2 : ((s[k].toNat : Int) == 0) = false := by simp; omega
              go_wp2
              go_ret2
              exact ⟨⟨_, k + 1, ret_ints HN.out (by omega), RV_hit s k (by omega) hk2 HA.out (by rw [HG.out]; exact hbig) (Or.inr (by rw [HG.out]; exact hz))⟩, rfl⟩
          · go_wp2
            go_ret2
            exact ⟨⟨_, k + 1, ret_ints HN.out (by omega), RV_hit s k (by omega) hk2 HA.out (by rw [HG.out]; exact hbig) (Or.inl (by omega))⟩, rfl⟩
        · go_wp2
          go_round
          case rel => exact ⟨k + 1, by omega, by go_num, val_int HN.out, hide (by
            intro j hj
            by_cases hjk : j < k
            · exact HA.out j hjk
            · obtain rfl : j = k := by omega
              rw [HG.out]; omega)⟩
          case measure => simp [intOf]; omega
      · obtain rfl : k = m := by omega
        go_wp2
        go_ret2
        exact ⟨⟨0, 0, rfl, RV_none s k HM.out HA.out⟩, rfl⟩

end Go.Proofs.YtkcjlalkniaapaaDoor
