/-
  What spec.Var answers at every number; it makes new memory only. What impl.putBehind does: it lays the bytes that it is handed behind those that a row of the call's own already bears, and tells the place behind them. What impl.Var answers at every number; it makes new memory only. What spec.Fixed answers at every number and every width; it makes new memory only. What impl.Fixed answers at every number and every width; it makes new memory only. Contracts of chapter 1's functions at every number, as records want them: what they answer in whatever world. spec.Crc: the sum of a text, bit by bit. spec.Crc answers, and touches nothing.
-/
import Derived.Test.YtphbinkkgmlnmaaGreatDoorG02
import Derived.Test.YtphbinkkgmlnmaaGreatDoorG00
import Derived.Test.YtphbinkkgmlnmaaGreatDoorMRecOkI
namespace Go.Proofs.YtphbinkkgmlnmaaGreatDoor
open Go.RowKit
open Plain

set_option maxHeartbeats 400000 in
theorem specVar_no (n : Int) (w : World) (h : n < 0 ∨ 562949953421311 < n) :
    Calls Tryz.prog 79 #[.int .i64 n] w fun e w' => e = .returned (.string ⟨#[]⟩) ∧ w = w' := by
  have hin : decide (0 ≤ n ∧ n ≤ 562949953421311) = false := by simp; omega
  go_enter Tryz.func79, Tryz.ntmps79
  go_wp2_with (go_at_call 91; refine (in_any _ _ _ _).mono ?_; rw [hin]; rintro e w' ⟨rfl, rfl⟩)
  go_ret
  exact ⟨rfl, rfl⟩

set_option maxRecDepth 100000 in
set_option maxHeartbeats 400000 in
theorem specVar_yes (n : Nat) (w : World) (hn : n ≤ 562949953421311) :
    Calls Tryz.prog 79 #[.int .i64 n] w fun e w' => e = .returned (.string (strOfNums (vb n))) ∧ Below w.heap.size w w' := by
  have hin : decide ((0:Int) ≤ n ∧ (n:Int) ≤ 562949953421311) = true := by simp; omega
  have H7 := vb_len7 n hn
  go_enter Tryz.func79, Tryz.ntmps79
  go_wp2_with (go_at_call 91; refine (in_any _ _ _ _).mono ?_; rw [hin]; rintro e w' ⟨rfl, rfl⟩)
  go_loopw [0, 3] (fun a v wr => ∃ (q : Nat) (p : List Int), q ≤ 562949953421311 ∧ a = .int .i64 q ∧ wr.ownsRow w.heap.size 5 1 v p.length (p.map (Value.int .u8)) ∧ Hid (p ++ vb q = vb n) ∧ Below w.heap.size w wr) (fun a _ _ => (intOf a).toNat)
  case atStart => exact ⟨n, [], hn, rfl, World.ownsRow_lit w #[] 0 (Nat.le_refl _) (by unfold maxLen; omega) rfl, hide rfl, (Below.refl _ _).alloc (Nat.le_refl _) _⟩
  case round =>
    obtain ⟨q, p, hq, rfl, hown, HP, hB⟩ := hrel
    have hpl : p.length ≤ 7 := by have := congrArg List.length HP.out; simp at this; omega
    by_cases hs : q < 128
    · go_wp2_with (at_builtin; refine wpList_app_byte rfl (.tmp 19) (.tmp 22) rfl hown hB.size _ (by omega) rfl rfl ?_; intro v' w2 hown2 hB2; have hcv := cv_own (L := vb n) (by rw [← HP.out, vb_small q hs]; simpa using hown2))
      go_ret
      exact ⟨rfl, hB.trans ‹_›⟩
    · go_wp2_with (at_builtin; refine wpList_app_byte rfl (.tmp 10) (.tmp 15) rfl hown hB.size _ (by omega) rfl rfl ?_; intro v' w2 hown2 hB2)
      rename_i v' w2 hown2 hB2
      go_roundw
      case rel => exact ⟨q / 128, p ++ [128 + (q : Int) % 128], by omega, by go_num, by simpa using hown2, hide (by rw [← HP.out, vb_big q hs]; simp), hB.trans hB2⟩
      case measure => simp [intOf]; omega

end Go.Proofs.YtphbinkkgmlnmaaGreatDoor
namespace Go.Proofs.YtphbinkkgmlnmaaGreatDoor
open Go.RowKit
open Plain

set_option maxHeartbeats 400000 in
theorem put_any (g N at' : Nat) (cur : List Value) (ad : Addr) (m : Nat) (cs : List Value) (w : World) (hg : w.heap[g]? = some (.cells cur.toArray 5 (0, 0))) (hN : cur.length = N) (hN2 : N ≤ 4194304)
    (hm : cs.length = m) (hm0 : 0 < m) (hfit : at' + m ≤ N) (hsrc : ∀ j v, cs[j]? = some v → w.cell? (ad.add j) = some v) (h1 : ∀ v ∈ cs, v.oneCell' = true) :
    Calls Tryz.prog 97 #[.slice (some ⟨g, 0, none⟩) N N, .int .i64 at', .slice (some ad) m m] w fun e w' => e = .returned (.int .i64 ((at' : Int) + (m : Int))) ∧ w' = w.setRow g (splice cur at' cs).toArray := by
  have hcp : (Builtin.copy_ #[22, 22] 3 #[.slice (some ⟨g, at', none⟩) (N - at') (N - at'), .slice (some ad) m m]).run Tryz.prog w = .ok (.int .i64 (m : Int)) (w.setRow g (splice cur at' cs).toArray) := by
    have h := run_copy_row (P := Tryz.prog) w 22 22 3 5 g at' (N - at') (N - at') ad m m cur.toArray 5 cs Tryz.underlying22 Tryz.size5 hg (by rw [hm]; exact (Nat.min_eq_left (by omega)).symm) hsrc (by simp [hN, hm]; omega) h1
    rw [h, hm]
    simp [goInt, splice, hm]
  clear hg hsrc h1
  generalize w.setRow g (splice cur at' cs).toArray = wz at *
  clear hN hm
  go_enter Tryz.func97, Tryz.ntmps97
  go_wp2
  go_ret
  exact ⟨rfl, rfl⟩

/-- impl.putBehind on a row of the call's own, at the end of what is filled. -/
theorem put_row (g N B m : Nat) (p r : List Int) (w wr : World) (hm : r.length = m) (hm0 : 0 < m) (hfit : p.length + m ≤ N) (hN : N ≤ 4194304) (HR : Hid (wr.heap[g]? = some (.cells (rowOf N p).toArray 5 (0, 0)))) (hB : Below B w wr) (hBw : B ≤ wr.heap.size) (hBg : B ≤ g) :
    Calls Tryz.prog 97 #[.slice (some ⟨g, 0, none⟩) N N, .int .i64 p.length, .slice (some ⟨wr.heap.size, 0, none⟩) m m] (wr.alloc (.cells (r.map (Value.int .u8)).toArray 5))
      fun e w' => e = .returned (.int .i64 ((p.length : Int) + (m : Int))) ∧ Hid (w'.heap[g]? = some (.cells (rowOf N (p ++ r)).toArray 5 (0, 0))) ∧ Below B w w' := by
  have hg2 : (wr.alloc (.cells (r.map (Value.int .u8)).toArray 5)).heap[g]? = some (.cells (rowOf N p).toArray 5 (0, 0)) := by rw [Below.heap_alloc _ _ _ (lt_of_block HR.out)]; exact HR.out
  refine (put_any g N p.length (rowOf N p) ⟨wr.heap.size, 0, none⟩ m (r.map (Value.int .u8)) _ hg2 (rowOf_len _ _ (by omega)) hN (by simpa using hm) hm0 hfit (src_row wr r) (one_row r)).mono ?_
  rintro e w2 ⟨rfl, rfl⟩
  refine ⟨rfl, hide ?_, below_setRow (hB.alloc hBw _) hBg _⟩
  rw [← rowOf_step N p r (by omega)]
  exact setRow_heap _ _ _ _ _ _ hg2
theorem put1 (g N B : Nat) (p : List Int) (x : Int) (w wr : World) (hfit : p.length + 1 ≤ N) (hN : N ≤ 4194304) (HR : Hid (wr.heap[g]? = some (.cells (rowOf N p).toArray 5 (0, 0)))) (hB : Below B w wr) (hBw : B ≤ wr.heap.size) (hBg : B ≤ g) :
    Calls Tryz.prog 97 #[.slice (some ⟨g, 0, none⟩) N N, .int .i64 p.length, .slice (some ⟨wr.heap.size, 0, none⟩) 1 1] (wr.alloc (.cells #[.int .u8 x] 5))
      fun e w' => e = .returned (.int .i64 ((p.length : Int) + 1)) ∧ Hid (w'.heap[g]? = some (.cells (rowOf N (p ++ [x])).toArray 5 (0, 0))) ∧ Below B w w' :=
  put_row g N B 1 p [x] w wr rfl (by omega) hfit hN HR hB hBw hBg
theorem put2 (g N B : Nat) (p : List Int) (x y : Int) (w wr : World) (hfit : p.length + 2 ≤ N) (hN : N ≤ 4194304) (HR : Hid (wr.heap[g]? = some (.cells (rowOf N p).toArray 5 (0, 0)))) (hB : Below B w wr) (hBw : B ≤ wr.heap.size) (hBg : B ≤ g) :
    Calls Tryz.prog 97 #[.slice (some ⟨g, 0, none⟩) N N, .int .i64 p.length, .slice (some ⟨wr.heap.size, 0, none⟩) 2 2] (wr.alloc (.cells #[.int .u8 x, .int .u8 y] 5))
      fun e w' => e = .returned (.int .i64 ((p.length : Int) + 2)) ∧ Hid (w'.heap[g]? = some (.cells (rowOf N (p ++ [x, y])).toArray 5 (0, 0))) ∧ Below B w w' :=
  put_row g N B 2 p [x, y] w wr rfl (by omega) hfit hN HR hB hBw hBg

end Go.Proofs.YtphbinkkgmlnmaaGreatDoor
namespace Go.Proofs.YtphbinkkgmlnmaaGreatDoor
open Go.RowKit
open Plain

set_option maxHeartbeats 400000 in
theorem implVar_no (n : Int) (w : World) (h : n < 0 ∨ 562949953421311 < n) :
    Calls Tryz.prog 83 #[.int .i64 n] w fun e w' => e = .returned (.string ⟨#[]⟩) ∧ w = w' := by
  by_cases h1 : n < 0
  · go_enter Tryz.func83, Tryz.ntmps83
    go_wp2
    go_ret
    exact ⟨rfl, rfl⟩
  · have h2 : 562949953421311 < n := by omega
    go_enter Tryz.func83, Tryz.ntmps83
    go_wp2
    go_ret
    exact ⟨rfl, rfl⟩

set_option maxRecDepth 100000 in
set_option maxHeartbeats 400000 in
theorem implVar_yes (n : Nat) (w : World) (hn : n ≤ 562949953421311) :
    Calls Tryz.prog 83 #[.int .i64 n] w fun e w' => e = .returned (.string (strOfNums (vb n))) ∧ Below w.heap.size w w' := by
  have H7 := vb_len7 n hn
  obtain ⟨i0, hi, hz0, hz1, hz2⟩ := info_parts Tryz.info5
  obtain ⟨w1, hmk0, hown, hgrow⟩ := run_make_full (P := Tryz.prog) w w.heap.size 22 5 i0 (.int .u8 0) 1 Tryz.underlying22 hi hz0 hz1 .i64 .i64 7 (by rw [hz2]; omega) (by unfold maxLen; omega) (Nat.le_refl _)
  have hmk : (Instr.makeSlice 22 (.int .i64 7) (.int .i64 7)).run Tryz.prog w = .ok (.slice (some ⟨w.heap.size, 0, none⟩) 7 7) w1 := hmk0
  have hB1 : Below w.heap.size w w1 := (Below.refl _ _).grown hgrow (Nat.le_refl _) (by intro k h; cases h)
  have HR : Hid (w1.heap[w.heap.size]? = some (.cells (rowOf 7 []).toArray 5 (0, 0))) := hide (by rw [made_row hown, rowOf_nil])
  clear hown hgrow hi hz0 hz1 hz2 hmk0
  go_enter Tryz.func83, Tryz.ntmps83
  go_wp2
  go_loopw [0, 4] (fun a v wr => ∃ (q : Nat) (p : List Int), q ≤ 562949953421311 ∧ a = .int .i64 q ∧ v = .int .i64 p.length ∧ Hid (wr.heap[w.heap.size]? = some (.cells (rowOf 7 p).toArray 5 (0, 0))) ∧ Hid (p ++ vb q = vb n) ∧ Below w.heap.size w wr) (fun a _ _ => (intOf a).toNat)
  case atStart => exact ⟨n, [], hn, rfl, rfl, HR, hide rfl, hB1⟩
  case round =>
    clear HR hB1 hmk
    obtain ⟨q, p, hq, rfl, rfl, HR, HP, hB⟩ := hrel
    have hpl : p.length + (vb q).length ≤ 7 := by have := congrArg List.length HP.out; simp at this; omega
    have hvp := vb_pos q
    have hlt2 : w.heap.size < wr.heap.size := lt_of_block HR.out
    by_cases hs : q < 128
    · go_wp2_with fail
      refine (put1 w.heap.size 7 w.heap.size p (q : Int) w wr (by omega) (by omega) HR hB hB.size (Nat.le_refl _)).mono ?_
      rintro e w2 ⟨rfl, HR2, hB2⟩
      have hL : p ++ [(q : Int)] = vb n := by rw [← HP.out, vb_small q hs]
      have hl : (vb n).length = p.length + 1 := by rw [← hL]; simp
      rw [hL] at HR2
      have hcv := cv_pre HR2.out hl
      clear HR2 HR hL hl HP
      go_wp2
      go_ret
      exact ⟨rfl, hB2⟩
    · have e1 := i64_and127 (q : Int)
      have e2 := or128 ((q : Int) % 128) (by omega) (by omega)
      have HP2 : Hid ((p ++ [128 + (q : Int) % 128]) ++ vb (q / 128) = vb n) := hide (by rw [← HP.out, vb_big q hs]; simp)
      have hv2 := vb_pos (q / 128)
      have hp2 : p.length + 2 ≤ 7 := by rw [vb_big q hs] at hpl; simp at hpl; omega
      go_wp2_with fail
      refine (put1 w.heap.size 7 w.heap.size p (128 + (q : Int) % 128) w wr (by omega) (by omega) HR hB hB.size (Nat.le_refl _)).mono ?_
      rintro e w2 ⟨rfl, HR2, hB2⟩
      clear HR HP e1 e2
      go_wp2
      go_roundw
      case rel => exact ⟨q / 128, _, by omega, by go_num, by simp, HR2, HP2, hB2⟩
      case measure => simp [intOf]; omega

end Go.Proofs.YtphbinkkgmlnmaaGreatDoor
namespace Go.Proofs.YtphbinkkgmlnmaaGreatDoor
open Go.RowKit
open Plain

set_option maxHeartbeats 400000 in
theorem specFixed_no (n m : Int) (w : World) (h : n < 0 ∨ m < 1 ∨ 7 < m) :
    Calls Tryz.prog 80 #[.int .i64 n, .int .i64 m] w fun e w' => e = .returned (.string ⟨#[]⟩) ∧ w = w' := by
  by_cases h1 : 1 ≤ m ∧ m ≤ 7
  · have hin : decide (1 ≤ m ∧ m ≤ 7) = true := by simpa using h1
    go_enter Tryz.func80, Tryz.ntmps80
    go_wp2_with (go_at_call 91; refine (in_any _ _ _ _).mono ?_; rw [hin]; rintro e w' ⟨rfl, rfl⟩)
    go_ret
    exact ⟨rfl, rfl⟩
  · have hin : decide (1 ≤ m ∧ m ≤ 7) = false := by simpa using h1
    go_enter Tryz.func80, Tryz.ntmps80
    go_wp2_with (go_at_call 91; refine (in_any _ _ _ _).mono ?_; rw [hin]; rintro e w' ⟨rfl, rfl⟩)
    go_ret
    exact ⟨rfl, rfl⟩

set_option maxHeartbeats 400000 in
theorem specFixed_yes (n m : Nat) (w : World) (hn : n ≤ 9223372036854775807) (h1 : 1 ≤ m) (h2 : m ≤ 7) :
    Calls Tryz.prog 80 #[.int .i64 n, .int .i64 m] w fun e w' => e = .returned (.string (fixStr n m)) ∧ Below w.heap.size w w' := by
  have hin : decide ((1:Int) ≤ m ∧ (m:Int) ≤ 7) = true := by simp; omega
  go_enter Tryz.func80, Tryz.ntmps80
  go_wp2_with (go_at_call 91; refine (in_any _ _ _ _).mono ?_; rw [hin]; rintro e w' ⟨rfl, rfl⟩)
  go_loopw [0, 5, 6] (fun q o i wr => ∃ k : Nat, k ≤ m ∧ i = .int .i64 k ∧ q = .int .i64 ((n / 256 ^ k : Nat) : Int) ∧ o = .string (strOfNums (low n k)) ∧ Below w.heap.size w wr) (fun _ _ i _ => m - (intOf i).toNat)
  case atStart => exact ⟨0, Nat.zero_le _, rfl, by simp, by simp [low, strOfNums], Below.refl _ _⟩
  case round =>
    obtain ⟨k, hk, rfl, rfl, rfl, hB⟩ := hrel
    by_cases hlt : k < m
    · have HQ : Hid (n / 256 ^ (k + 1) = n / 256 ^ k / 256) := hide (div_step n k).symm
      have HL : Hid (low n (k + 1) = ((n / 256 ^ k % 256 : Nat) : Int) :: low n k) := hide (low_succ n k)
      have hq : n / 256 ^ k ≤ n := Nat.div_le_self _ _
      have ho : (strOfNums (low n k)).size ≤ 7 := by rw [strOfNums_size, low_length]; omega
      generalize hqq : n / 256 ^ k = q at *
      generalize hll : low n k = L at *
      have ho1 : (strOfNums [(q : Int) % 256]).size ≤ 1 := by rw [strOfNums_size]; simp
      clear hqq hll
      have hcv := cv_one wr
      go_wp2
      go_roundw
      case rel => exact ⟨k + 1, by omega, by go_num, val_int (by rw [HQ.out]; omega), by rw [strOfNums_append, HL.out]; rfl, hB.alloc hB.size _⟩
      case measure => simp [intOf]; omega
    · obtain rfl : k = m := by omega
      have hd := div_pos_iff n k
      have hpw : 0 < 256 ^ k := Nat.pow_pos (by omega)
      by_cases hbig : 256 ^ k ≤ n
      · have hp : 0 < n / 256 ^ k := hd.2 hbig
        have HF : Hid (fixStr n k = ⟨#[]⟩) := hide (by simp [fixStr]; omega)
        clear hd hbig hpw
        generalize n / 256 ^ k = q at *
        go_wp2
        go_ret
        exact ⟨by rw [HF.out]; rfl, hB⟩
      · have hp : n / 256 ^ k = 0 := Nat.div_eq_of_lt (by omega)
        have HF : Hid (fixStr n k = strOfNums (low n k)) := hide (by simp [fixStr]; omega)
        rw [hp]
        clear hd hbig hpw hp
        go_wp2
        go_ret
        exact ⟨by rw [HF.out]; rfl, hB⟩

end Go.Proofs.YtphbinkkgmlnmaaGreatDoor
namespace Go.Proofs.YtphbinkkgmlnmaaGreatDoor
open Go.RowKit
open Plain

set_option maxRecDepth 100000 in
set_option maxHeartbeats 400000 in
theorem implFixed_no (n m : Int) (w : World) (h : n < 0 ∨ m < 1 ∨ 7 < m) :
    Calls Tryz.prog 107 #[.int .i64 n, .int .i64 m] w fun e w' => e = .returned (.string ⟨#[]⟩) ∧ w = w' := by
  by_cases h1 : m < 1
  · go_enter Tryz.func107, Tryz.ntmps107
    go_wp2
    go_ret
    exact ⟨rfl, rfl⟩
  · by_cases h2 : 7 < m
    · go_enter Tryz.func107, Tryz.ntmps107
      go_wp2
      go_ret
      exact ⟨rfl, rfl⟩
    · have h3 : n < 0 := by omega
      go_enter Tryz.func107, Tryz.ntmps107
      go_wp2
      go_ret
      exact ⟨rfl, rfl⟩

def rowAt (L : List Int) (k : Nat) : List Value := (L.take k ++ List.replicate (L.length - k) 0).map (Value.int .u8)
theorem rowAt_len (L : List Int) (k : Nat) (h : k ≤ L.length) : (rowAt L k).length = L.length := by simp [rowAt]; omega
theorem rowAt_zero (L : List Int) : rowAt L 0 = List.replicate L.length (.int .u8 0) := by simp [rowAt]
theorem rowAt_full (L : List Int) : rowAt L L.length = L.map (Value.int .u8) := by simp [rowAt]
theorem rowAt_step (L : List Int) (k : Nat) (x : Int) (h : L[k]? = some x) : splice (rowAt L k) k [.int .u8 x] = rowAt L (k + 1) := by
  have hk : k < L.length := by
    rcases Nat.lt_or_ge k L.length with h' | h'
    · exact h'
    · rw [List.getElem?_eq_none h'] at h; simp at h
  have hx : L[k] = x := by rw [List.getElem?_eq_getElem hk] at h; simpa using h
  unfold splice rowAt
  rw [List.take_succ_eq_append_getElem hk, hx]
  have e : L.length - k = (L.length - (k + 1)) + 1 := by omega
  rw [e, List.replicate_succ]
  simp [List.drop_append, Nat.min_eq_left (Nat.le_of_lt hk)]

/-- A whole row of bytes of the call's own, as a string. -/
theorem cv_row {w : World} {g n k : Nat} {L : List Int} (h : w.heap[g]? = some (.cells (rowAt L k).toArray 5 (0, 0))) (hk : k = L.length) (hn : L.length = n) :
    (convert 22 9 (.slice (some ⟨g, 0, none⟩) n n)).run Tryz.prog w = .ok (.string (strOfNums L)) w := by
  subst hk
  refine run_convert_bytes_arg (P := Tryz.prog) w 22 5 Tryz.underlying22 Tryz.underlying5 g 0 n n L hn ?_ 9 Tryz.underlying9
  intro i hi
  rw [rowAt_full] at h
  have hi' : i < L.length := by omega
  simp [World.cell?, h, List.getD, hi']

theorem pow256 (k : Nat) : (2 : Nat) ^ (8 * k) = 256 ^ k := by rw [Nat.pow_mul]
theorem shr_pow (n k : Nat) : (n : Int) / 2 ^ (8 * k) = ((n / 256 ^ k : Nat) : Int) := by
  rw [← pow256]; norm_cast
theorem shr_byte (n k : Nat) : (n : Int) / 2 ^ (8 * k) % 256 = ((n / 256 ^ k % 256 : Nat) : Int) := by
  rw [shr_pow]
  generalize n / 256 ^ k = q
  omega

set_option maxRecDepth 100000 in
set_option maxHeartbeats 400000 in
theorem implFixed_great (n m : Nat) (w : World) (_hn : n ≤ 9223372036854775807) (h1 : 1 ≤ m) (h2 : m ≤ 7) (hb : 256 ^ m ≤ n) :
    Calls Tryz.prog 107 #[.int .i64 n, .int .i64 m] w fun e w' => e = .returned (.string ⟨#[]⟩) ∧ w = w' := by
  have hsh : ((n : Int) / 2 ^ (8 * m) != 0) = true := by
    rw [shr_pow]
    have := (div_pos_iff n m).2 hb
    simp only [bne_iff_ne, ne_eq]
    omega
  clear hb
  go_enter Tryz.func107, Tryz.ntmps107
  go_wp2
  go_ret
  exact ⟨rfl, rfl⟩

set_option maxRecDepth 100000 in
set_option maxHeartbeats 400000 in
theorem implFixed_fits (n m : Nat) (w : World) (hn : n ≤ 9223372036854775807) (h1 : 1 ≤ m) (h2 : m ≤ 7) (hb : n < 256 ^ m) :
    Calls Tryz.prog 107 #[.int .i64 n, .int .i64 m] w fun e w' => e = .returned (.string (strOfNums (low n m))) ∧ Below w.heap.size w w' := by
  have hsh : ((n : Int) / 2 ^ (8 * m) != 0) = false := by
    rw [shr_pow, Nat.div_eq_of_lt hb]; rfl
  clear hb
  obtain ⟨i0, hi, hz0, hz1, hz2⟩ := info_parts Tryz.info5
  obtain ⟨w1, hmk, hown, hgrow⟩ := run_make_full (P := Tryz.prog) w w.heap.size 22 5 i0 (.int .u8 0) 1 Tryz.underlying22 hi hz0 hz1 .i64 .i64 m (by rw [hz2]; omega) (by unfold maxLen; omega) (Nat.le_refl _)
  have hrow := made_row hown
  have hB1 : Below w.heap.size w w1 := (Below.refl _ _).grown hgrow (Nat.le_refl _) (by intro k h; cases h)
  have hlow := low_length n m
  have HL : Hid ((low n m).length = m) := hide hlow
  have HR : Hid (w1.heap[w.heap.size]? = some (.cells (rowAt (low n m) 0).toArray 5 (0, 0))) := hide (by rw [hrow, rowAt_zero, hlow])
  clear hown hgrow hrow hlow hi hz0 hz1 hz2
  go_enter Tryz.func107, Tryz.ntmps107
  go_wp2
  go_loopw [6, 28] (fun a i wr => ∃ k : Nat, k ≤ m ∧ a = .int .i64 k ∧ i = .int .i64 k ∧ Hid (wr.heap[w.heap.size]? = some (.cells (rowAt (low n m) k).toArray 5 (0, 0))) ∧ Below w.heap.size w wr) (fun _ i _ => m - (intOf i).toNat)
  case atStart => exact ⟨0, Nat.zero_le _, rfl, rfl, HR, hB1⟩
  case round =>
    clear HR hB1 hmk
    obtain ⟨k, hk, rfl, rfl, HR, hB⟩ := hrel
    by_cases hlt : k < m
    · have hx : (low n m)[k]? = some ((n : Int) / 2 ^ (8 * (m - 1 - k)) % 256) := by rw [low_get n m k hlt, shr_byte]
      go_wp2_with fail
      generalize (n : Int) / 2 ^ (8 * (m - 1 - k)) % 256 = x at *
      have hst := rowAt_step (low n m) k x hx
      have hlt2 : w.heap.size < wr.heap.size := lt_of_block HR.out
      have hg2 : (wr.alloc (.cells #[.int .u8 x] 5)).heap[w.heap.size]? = some (.cells (rowAt (low n m) k).toArray 5 (0, 0)) := by rw [Below.heap_alloc _ _ _ hlt2]; exact HR.out
      have hB2 : Below w.heap.size w (wr.alloc (.cells #[.int .u8 x] 5)) := hB.alloc hB.size _
      refine (put_any w.heap.size m k (rowAt (low n m) k) ⟨wr.heap.size, 0, none⟩ 1 [.int .u8 x] _ hg2 (by rw [rowAt_len _ _ (by rw [HL.out]; exact hk)]; exact HL.out) (by omega) rfl (by omega) (by omega) (src_one wr x) (one_one x)).mono ?_
      rintro e w2 ⟨rfl, hw2⟩
      have HR2 : Hid (w2.heap[w.heap.size]? = some (.cells (rowAt (low n m) (k + 1)).toArray 5 (0, 0))) := hide (by rw [hw2, ← hst]; exact setRow_heap _ _ _ _ _ _ hg2)
      have hB3 : Below w.heap.size w w2 := by rw [hw2]; exact below_setRow hB2 (Nat.le_refl _) _
      clear hw2 hg2 hst hx hB2 hlt2 HR hB
      go_wp2
      go_roundw
      case rel => exact ⟨k + 1, by omega, by go_num, by go_num, HR2, hB3⟩
      case measure => simp [intOf]; omega
    · obtain rfl : k = m := by omega
      have hcv : (convert 22 9 (.slice (some ⟨w.heap.size, 0, none⟩) k k)).run Tryz.prog wr = .ok (.string (strOfNums (low n k))) wr := cv_row HR.out (by rw [HL.out]) HL.out
      clear HR
      go_wp2
      go_ret
      exact ⟨rfl, hB⟩

theorem implFixed_yes (n m : Nat) (w : World) (hn : n ≤ 9223372036854775807) (h1 : 1 ≤ m) (h2 : m ≤ 7) :
    Calls Tryz.prog 107 #[.int .i64 n, .int .i64 m] w fun e w' => e = .returned (.string (fixStr n m)) ∧ Below w.heap.size w w' := by
  by_cases hb : n < 256 ^ m
  · have e : fixStr n m = strOfNums (low n m) := by simp [fixStr, hb]
    rw [e]
    exact implFixed_fits n m w hn h1 h2 hb
  · have e : fixStr n m = ⟨#[]⟩ := by simp [fixStr, hb]
    rw [e]
    refine (implFixed_great n m w hn h1 h2 (by omega)).mono ?_
    rintro e w' ⟨rfl, rfl⟩
    exact ⟨rfl, Below.refl _ _⟩

end Go.Proofs.YtphbinkkgmlnmaaGreatDoor
namespace Go.Proofs.YtphbinkkgmlnmaaGreatDoor
open Go.RowKit
open Plain

theorem implVar_any (n : Int) : Ans 83 #[.int .i64 n] (.string (varS n)) := by
  intro w
  by_cases h : 0 ≤ n ∧ n ≤ 562949953421311
  · obtain ⟨m, rfl⟩ := Int.eq_ofNat_of_zero_le h.1
    rw [varS_in m (by omega)]
    exact implVar_yes m w (by omega)
  · rw [varS_out n (by omega)]
    refine (implVar_no n w (by omega)).mono ?_
    rintro e w' ⟨rfl, rfl⟩
    exact ⟨rfl, Below.refl _ _⟩
theorem specVar_any (n : Int) : Ans 79 #[.int .i64 n] (.string (varS n)) := by
  intro w
  by_cases h : 0 ≤ n ∧ n ≤ 562949953421311
  · obtain ⟨m, rfl⟩ := Int.eq_ofNat_of_zero_le h.1
    rw [varS_in m (by omega)]
    exact specVar_yes m w (by omega)
  · rw [varS_out n (by omega)]
    refine (specVar_no n w (by omega)).mono ?_
    rintro e w' ⟨rfl, rfl⟩
    exact ⟨rfl, Below.refl _ _⟩
theorem implFix4_any (n : Int) (h1 : n ≤ 9223372036854775807) : Ans 107 #[.int .i64 n, .int .i64 4] (.string (fixN n 4)) := by
  intro w
  by_cases h : 0 ≤ n
  · obtain ⟨m, rfl⟩ := Int.eq_ofNat_of_zero_le h
    have e : fixN (m : Int) 4 = fixStr m 4 := by unfold fixN; rw [if_pos h, Int.toNat_natCast]
    rw [e]
    exact implFixed_yes m 4 w (by omega) (by omega) (by omega)
  · have e : fixN n 4 = ⟨#[]⟩ := by unfold fixN; rw [if_neg h]
    rw [e]
    refine (implFixed_no n 4 w (by omega)).mono ?_
    rintro e w' ⟨rfl, rfl⟩
    exact ⟨rfl, Below.refl _ _⟩
theorem specFix4_any (n : Int) (h1 : n ≤ 9223372036854775807) : Ans 80 #[.int .i64 n, .int .i64 4] (.string (fixN n 4)) := by
  intro w
  by_cases h : 0 ≤ n
  · obtain ⟨m, rfl⟩ := Int.eq_ofNat_of_zero_le h
    have e : fixN (m : Int) 4 = fixStr m 4 := by unfold fixN; rw [if_pos h, Int.toNat_natCast]
    rw [e]
    exact specFixed_yes m 4 w (by omega) (by omega) (by omega)
  · have e : fixN n 4 = ⟨#[]⟩ := by unfold fixN; rw [if_neg h]
    rw [e]
    refine (specFixed_no n 4 w (by omega)).mono ?_
    rintro e w' ⟨rfl, rfl⟩
    exact ⟨rfl, Below.refl _ _⟩
end Go.Proofs.YtphbinkkgmlnmaaGreatDoor
namespace Go.Proofs.YtphbinkkgmlnmaaGreatDoor
open Go.RowKit
open Plain

theorem i64_xor_nat (a b : Nat) (ha : a < 9223372036854775808) (hb : b < 9223372036854775808) : bits .xor .i64 (a : Int) (b : Int) = ((a ^^^ b : Nat) : Int) := by
  have hx : a ^^^ b < 2 ^ 63 := Nat.xor_lt_two_pow (by omega) (by omega)
  show IntKind.i64.wrap ((BitVec.ofInt 64 (a : Int) ^^^ BitVec.ofInt 64 (b : Int)).toNat : Int) = _
  rw [BitVec.toNat_xor, ofInt_i64 a (by omega), ofInt_i64 b (by omega), IntKind.wrap_i64]
  omega

theorem tk_odd (c : Nat) (h : (c : Int) % 2 = 1) (hc : c < 4294967296) : bits .xor .i64 ((c : Int) / 2) 2197175160 = (tk c : Int) := by
  have e : (c : Int) / 2 = ((c / 2 : Nat) : Int) := by omega
  have e2 : (2197175160 : Int) = ((2197175160 : Nat) : Int) := rfl
  rw [e, e2, i64_xor_nat _ _ (by omega) (by omega), tk, if_pos (by omega)]
theorem tk_even (c : Nat) (h : ¬ (c : Int) % 2 = 1) : (c : Int) / 2 = (tk c : Int) := by
  rw [tk, if_neg (by omega)]
  omega

set_option maxRecDepth 100000 in
set_option maxHeartbeats 1000000 in
theorem specCrc_any (s : ByteArray) (w : World) (hs : s.size ≤ 1099511627776) :
    Calls Tryz.prog 69 #[.string s] w fun e w' => e = .returned (.int .i64 (crcN s)) ∧ w = w' := by
  go_enter Tryz.func69, Tryz.ntmps69
  go_wp2
  go_loop [3, 4] (fun c i => ∃ k : Nat, k ≤ s.size ∧ c = .int .i64 (ck s k) ∧ i = .int .i64 k) (fun _ i => s.size - (intOf i).toNat)
  case atStart => exact ⟨0, by omega, by rw [ck_zero]; rfl, rfl⟩
  case round =>
    obtain ⟨k, hk, rfl, rfl⟩ := hrel
    have hlt := ck_lt s k
    by_cases h : k < s.size
    · have hcs := hide (ck_succ s k h)
      have hb := UInt8.toNat_lt s[k]
      have hx := i64_xor_nat (ck s k) s[k].toNat (by omega) (by omega)
      have hxl := xor_lt32 (ck s k) s[k].toNat hlt (by omega)
      go_wp2
      clear hx
      have HX : Hid (tkN 8 (ck s k ^^^ s[k].toNat) = ck s (k + 1)) := hide (by rw [hcs.out]; rfl)
      generalize ck s k ^^^ s[k].toNat = x at *
      clear hcs hb
      go_loop [3, 5] (fun c i => ∃ j : Nat, j ≤ 8 ∧ c = .int .i64 (tkN j x) ∧ i = .int .i64 j) (fun _ i => 8 - (intOf i).toNat)
      case atStart => exact ⟨0, by omega, rfl, rfl⟩
      case round =>
        obtain ⟨j, hj, rfl, rfl⟩ := hrel
        have hjl := tkN_lt j x hxl
        by_cases h8 : j < 8
        · have HT : Hid (tkN (j + 1) x = tk (tkN j x)) := hide rfl
          generalize tkN j x = y at *
          by_cases ho : (y : Int) % 2 = 1
          · have hodd := tk_odd y ho hjl
            go_wp2
            go_round
            case rel => exact ⟨j + 1, by omega, by rw [HT.out], by go_num⟩
            case measure => first | (simp [intOf]; done) | (simp [intOf]; omega)
          · have hev := hide (tk_even y ho)
            go_wp2
            go_round
            case rel => exact ⟨j + 1, by omega, by rw [HT.out, ← hev.out], by go_num⟩
            case measure => first | (simp [intOf]; done) | (simp [intOf]; omega)
        · obtain rfl : j = 8 := by omega
          rw [HX.out]
          go_wp2
          go_round
          case rel => exact ⟨k + 1, by omega, rfl, by go_num⟩
          case measure => first | (simp [intOf]; done) | (simp [intOf]; omega)
    · obtain rfl : k = s.size := by omega
      have hcc := hide (crc_ck s)
      go_wp2
      go_ret
      rw [hcc.out]
      exact ⟨rfl, rfl⟩

end Go.Proofs.YtphbinkkgmlnmaaGreatDoor
namespace Go.Proofs.YtphbinkkgmlnmaaGreatDoor
open Go.RowKit
open Plain

theorem specCrc_ans (s : ByteArray) (hs : s.size ≤ 1099511627776) : Ans 69 #[.string s] (.int .i64 (crcN s)) := by
  intro w
  refine (specCrc_any s w hs).mono ?_
  rintro e w' ⟨rfl, rfl⟩
  exact ⟨rfl, Below.refl _ _⟩

end Go.Proofs.YtphbinkkgmlnmaaGreatDoor
