/-
  What impl.Fixed answers at every number and every width; it makes new memory only.
-/
import Derived.Test.YtimpokbcfjgdaaaDoorPut
import Derived.Test.YtimpokbcfjgdaaaDoorFixStr
namespace Go.Proofs.YtimpokbcfjgdaaaDoor
open Go.RowKit
open Plain

set_option maxRecDepth 100000 in
set_option maxHeartbeats 400000 in
theorem implFixed_no (n m : Int) (w : World) (h : n < 0 ∨ m < 1 ∨ 7 < m) :
    Calls Tryd.prog 24 #[.int .i64 n, .int .i64 m] w fun e w' => e = .returned (.string ⟨#[]⟩) ∧ w = w' := by
  by_cases h1 : m < 1
  · go_enter Tryd.func24, Tryd.ntmps24
    go_wp2
    go_ret
    exact ⟨rfl, rfl⟩
  · by_cases h2 : 7 < m
    · go_enter Tryd.func24, Tryd.ntmps24
      go_wp2
      go_ret
      exact ⟨rfl, rfl⟩
    · have h3 : n < 0 := by omega
      go_enter Tryd.func24, Tryd.ntmps24
      go_wp2
      go_ret
      exact ⟨rfl, rfl⟩

def rowAt (L : List Int) (k : Nat) : List Value := (L.take k ++ List.replicate (L.length - k) 0).map (Value.int .u8)
theorem rowAt_len (L : List Int) (k : Nat) (h : k ≤ L.length) : (rowAt L k).length = L.length := by simp [rowAt]; omega
theorem rowAt_zero (L : List Int) : rowAt L 0 = List.replicate L.length (.int .u8 0) := by simp [rowAt]
theorem rowAt_full (L : List Int) : rowAt L L.length = L.map (Value.int .u8) := by simp [rowAt]
theorem rowAt_step (L : List Int) (k : Nat) (x : Int) (h : L[k]? = some x) : splice (rowAt L k) k [.int .u8 x] = rowAt L (k + 1) := by
  have hk : k < L.length := by
    rcases Nat.lt_or_ge k L.length with h' | h'
    · exact h'
    · rw [List.getElem?_eq_none h'] at h; simp at h
  have hx : L[k] = x := by rw [List.getElem?_eq_getElem hk] at h; simpa using h
  unfold splice rowAt
  rw [List.take_succ_eq_append_getElem hk, hx]
  have e : L.length - k = (L.length - (k + 1)) + 1 := by omega
  rw [e, List.replicate_succ]
  simp [List.drop_append, Nat.min_eq_left (Nat.le_of_lt hk)]

/-- A whole row of bytes of the call's own, as a string. -/
theorem cv_row {w : World} {g n k : Nat} {L : List Int} (h : w.heap[g]? = some (.cells (rowAt L k).toArray 5 (0, 0))) (hk : k = L.length) (hn : L.length = n) :
    (convert 46 9 (.slice (some ⟨g, 0, none⟩) n n)).run Tryd.prog w = .ok (.string (strOfNums L)) w := by
  subst hk
  refine run_convert_bytes_arg (P := Tryd.prog) w 46 5 Tryd.underlying46 Tryd.underlying5 g 0 n n L hn ?_ 9 Tryd.underlying9
  intro i hi
  rw [rowAt_full] at h
  have hi' : i < L.length := by omega
  simp [World.cell?, h, List.getD, hi']

theorem pow256 (k : Nat) : (2 : Nat) ^ (8 * k) = 256 ^ k := by rw [Nat.pow_mul]
theorem shr_pow (n k : Nat) : (n : Int) / 2 ^ (8 * k) = ((n / 256 ^ k : Nat) : Int) := by
  rw [← pow256]; norm_cast
theorem shr_byte (n k : Nat) : (n : Int) / 2 ^ (8 * k) % 256 = ((n / 256 ^ k % 256 : Nat) : Int) := by
  rw [shr_pow]
  generalize n / 256 ^ k = q
  omega

set_option maxRecDepth 100000 in
set_option maxHeartbeats 400000 in
theorem implFixed_great (n m : Nat) (w : World) (_hn : n ≤ 9223372036854775807) (h1 : 1 ≤ m) (h2 : m ≤ 7) (hb : 256 ^ m ≤ n) :
    Calls Tryd.prog 24 #[.int .i64 n, .int .i64 m] w fun e w' => e = .returned (.string ⟨#[]⟩) ∧ w = w' := by
  have hsh : ((n : Int) / 2 ^ (8 * m) != 0) = true := by
    rw [shr_pow]
    have := (div_pos_iff n m).2 hb
    simp only [bne_iff_ne, ne_eq]
    omega
  clear hb
  go_enter Tryd.func24, Tryd.ntmps24
  go_wp2
  go_ret
  exact ⟨rfl, rfl⟩

set_option maxRecDepth 100000 in
set_option maxHeartbeats 400000 in
theorem implFixed_fits (n m : Nat) (w : World) (hn : n ≤ 9223372036854775807) (h1 : 1 ≤ m) (h2 : m ≤ 7) (hb : n < 256 ^ m) :
    Calls Tryd.prog 24 #[.int .i64 n, .int .i64 m] w fun e w' => e = .returned (.string (strOfNums (low n m))) ∧ Below w.heap.size w w' := by
  have hsh : ((n : Int) / 2 ^ (8 * m) != 0) = false := by
    rw [shr_pow, Nat.div_eq_of_lt hb]; rfl
  clear hb
  obtain ⟨i0, hi, hz0, hz1, hz2⟩ := info_parts Tryd.info5
  obtain ⟨w1, hmk, hown, hgrow⟩ := run_make_full (P := Tryd.prog) w w.heap.size 46 5 i0 (.int .u8 0) 1 Tryd.underlying46 hi hz0 hz1 .i64 .i64 m (by rw [hz2]; omega) (by unfold maxLen; omega) (Nat.le_refl _)
  have hrow := made_row hown
  have hB1 : Below w.heap.size w w1 := (Below.refl _ _).grown hgrow (Nat.le_refl _) (by intro k h; cases h)
  have hlow := low_length n m
  have HL : Hid ((low n m).length = m) := hide hlow
  have HR : Hid (w1.heap[w.heap.size]? = some (.cells (rowAt (low n m) 0).toArray 5 (0, 0))) := hide (by rw [hrow, rowAt_zero, hlow])
  clear hown hgrow hrow hlow hi hz0 hz1 hz2
  go_enter Tryd.func24, Tryd.ntmps24
  go_wp2
  go_loopw [6, 28] (fun a i wr => ∃ k : Nat, k ≤ m ∧ a = .int .i64 k ∧ i = .int .i64 k ∧ Hid (wr.heap[w.heap.size]? = some (.cells (rowAt (low n m) k).toArray 5 (0, 0))) ∧ Below w.heap.size w wr) (fun _ i _ => m - (intOf i).toNat)
  case atStart => exact ⟨0, Nat.zero_le _, rfl, rfl, HR, hB1⟩
  case round =>
    clear HR hB1 hmk
    obtain ⟨k, hk, rfl, rfl, HR, hB⟩ := hrel
    by_cases hlt : k < m
    · have hx : (low n m)[k]? = some ((n : Int) / 2 ^ (8 * (m - 1 - k)) % 256) := by rw [low_get n m k hlt, shr_byte]
      go_wp2_with fail
      generalize (n : Int) / 2 ^ (8 * (m - 1 - k)) % 256 = x at *
      have hst := rowAt_step (low n m) k x hx
      have hlt2 : w.heap.size < wr.heap.size := lt_of_block HR.out
      have hg2 : (wr.alloc (.cells #[.int .u8 x] 5)).heap[w.heap.size]? = some (.cells (rowAt (low n m) k).toArray 5 (0, 0)) := by rw [Below.heap_alloc _ _ _ hlt2]; exact HR.out
      have hB2 : Below w.heap.size w (wr.alloc (.cells #[.int .u8 x] 5)) := hB.alloc hB.size _
      refine (put_any w.heap.size m k (rowAt (low n m) k) ⟨wr.heap.size, 0, none⟩ 1 [.int .u8 x] _ hg2 (by rw [rowAt_len _ _ (by rw [HL.out]; exact hk)]; exact HL.out) (by omega) rfl (by omega) (by omega) (src_one wr x) (one_one x)).mono ?_
      rintro e w2 ⟨rfl, hw2⟩
      have HR2 : Hid (w2.heap[w.heap.size]? = some (.cells (rowAt (low n m) (k + 1)).toArray 5 (0, 0))) := hide (by rw [hw2, ← hst]; exact setRow_heap _ _ _ _ _ _ hg2)
      have hB3 : Below w.heap.size w w2 := by rw [hw2]; exact below_setRow hB2 (Nat.le_refl _) _
      clear hw2 hg2 hst hx hB2 hlt2 HR hB
      go_wp2
      go_roundw
      case rel => exact ⟨k + 1, by omega, by go_num, by go_num, HR2, hB3⟩
      case measure => simp [intOf]; omega
    · obtain rfl : k = m := by omega
      have hcv : (convert 46 9 (.slice (some ⟨w.heap.size, 0, none⟩) k k)).run Tryd.prog wr = .ok (.string (strOfNums (low n k))) wr := cv_row HR.out (by rw [HL.out]) HL.out
      clear HR
      go_wp2
      go_ret
      exact ⟨rfl, hB⟩

theorem implFixed_yes (n m : Nat) (w : World) (hn : n ≤ 9223372036854775807) (h1 : 1 ≤ m) (h2 : m ≤ 7) :
    Calls Tryd.prog 24 #[.int .i64 n, .int .i64 m] w fun e w' => e = .returned (.string (fixStr n m)) ∧ Below w.heap.size w w' := by
  by_cases hb : n < 256 ^ m
  · have e : fixStr n m = strOfNums (low n m) := by simp [fixStr, hb]
    rw [e]
    exact implFixed_fits n m w hn h1 h2 hb
  · have e : fixStr n m = ⟨#[]⟩ := by simp [fixStr, hb]
    rw [e]
    refine (implFixed_great n m w hn h1 h2 (by omega)).mono ?_
    rintro e w' ⟨rfl, rfl⟩
    exact ⟨rfl, Below.refl _ _⟩

end Go.Proofs.YtimpokbcfjgdaaaDoor
