/-
  Plain facts on bytes and numbers, with no Go in sight: what a row of bytes says as a number, and how Go's 'or', 'and' and shifts on int come to sums, remainders and quotients where nothing overlaps.
-/
import Derived.WalkKit
import Derived.Laws.BitsAllLaws
import Derived.Laws.Bits128
import Derived.Laws.BytesArg
import Derived.Laws.Concat
namespace Go.Proofs.Ytelfhodaahpggaj
namespace Plain

theorem ofInt_i64 (a : Nat) (ha : a < 18446744073709551616) : (BitVec.ofInt 64 (a : Int)).toNat = a := by
  rw [BitVec.ofInt_natCast, BitVec.toNat_ofNat]; exact Nat.mod_eq_of_lt (by omega)

theorem i64_or_nat (a b : Nat) (ha : a < 9223372036854775808) (hb : b < 9223372036854775808) : bits .or .i64 (a : Int) (b : Int) = ((a ||| b : Nat) : Int) := by
  have hx : a ||| b < 2 ^ 63 := Nat.or_lt_two_pow (by omega) (by omega)
  show IntKind.i64.wrap ((BitVec.ofInt 64 (a : Int) ||| BitVec.ofInt 64 (b : Int)).toNat : Int) = _
  rw [BitVec.toNat_or, ofInt_i64 a (by omega), ofInt_i64 b (by omega), IntKind.wrap_i64]
  omega

theorem i64_and_nat (a b : Nat) (ha : a < 9223372036854775808) (hb : b < 9223372036854775808) : bits .and .i64 (a : Int) (b : Int) = ((a &&& b : Nat) : Int) := by
  have hx : a &&& b < 2 ^ 63 := Nat.and_lt_two_pow _ (by omega)
  show IntKind.i64.wrap ((BitVec.ofInt 64 (a : Int) &&& BitVec.ofInt 64 (b : Int)).toNat : Int) = _
  rw [BitVec.toNat_and, ofInt_i64 a (by omega), ofInt_i64 b (by omega), IntKind.wrap_i64]
  omega

/-- 'n<<8 | c' where c is a byte. -/
theorem or_byte (a : Int) (b : Int) (h0 : 0 ≤ a) (h1 : a < 36028797018963968) (h2 : 0 ≤ b) (h3 : b < 256) : bits .or .i64 (a * 256) b = a * 256 + b := by
  obtain ⟨A, rfl⟩ := Int.eq_ofNat_of_zero_le h0
  obtain ⟨B, rfl⟩ := Int.eq_ofNat_of_zero_le h2
  have e : ((A : Int) * 256) = ((A * 256 : Nat) : Int) := by omega
  rw [e, i64_or_nat _ _ (by omega) (by omega), nat_join 8 (A * 256) B (by omega) (by omega)]
  omega

/-- The byte at place k, 0 behind the end. -/
def byteAt (s : ByteArray) (k : Nat) : Nat := if h : k < s.size then s[k].toNat else 0
theorem byteAt_eq (s : ByteArray) (k : Nat) (h : k < s.size) : byteAt s k = s[k].toNat := by simp [byteAt, h]
theorem byteAt_lt (s : ByteArray) (k : Nat) : byteAt s k < 256 := by
  unfold byteAt
  split
  · exact UInt8.toNat_lt _
  · omega

/-- What the first k bytes say, the greatest first. -/
def fixVal (s : ByteArray) : Nat → Nat
  | 0 => 0
  | k + 1 => fixVal s k * 256 + byteAt s k
theorem fixVal_lt (s : ByteArray) (k : Nat) : fixVal s k < 256 ^ k := by
  induction k with
  | zero => simp [fixVal]
  | succ k ih =>
    have := byteAt_lt s k
    simp only [fixVal, Nat.pow_succ]
    omega
theorem fixVal_bd (s : ByteArray) (k : Nat) (h : k ≤ 6) : fixVal s k < 281474976710656 := by
  have h1 := fixVal_lt s k
  have h2 : 256 ^ k ≤ 256 ^ 6 := Nat.pow_le_pow_right (by omega) h
  have h3 : (256 : Nat) ^ 6 = 281474976710656 := by decide
  omega

theorem strOfNums_append (xs ys : List Int) : strOfNums xs ++ strOfNums ys = strOfNums (xs ++ ys) := by
  unfold strOfNums
  rw [ByteArray.mk_append_mk]
  simp

/-- The m low bytes of n, the greatest first. -/
def low (n m : Nat) : List Int := (List.range m).map fun i => ((n / 256 ^ (m - 1 - i) % 256 : Nat) : Int)
theorem low_length (n m : Nat) : (low n m).length = m := by simp [low]
theorem low_succ (n k : Nat) : low n (k + 1) = ((n / 256 ^ k % 256 : Nat) : Int) :: low n k := by
  unfold low
  rw [List.range_succ_eq_map, List.map_cons, List.map_map]
  congr 1
  apply List.map_congr_left
  intro i hi
  have hi' : i < k := by simpa using hi
  simp only [Function.comp, Nat.succ_eq_add_one]
  rw [show k + 1 - 1 - (i + 1) = k - 1 - i from by omega]
theorem div_step (n k : Nat) : n / 256 ^ k / 256 = n / 256 ^ (k + 1) := by
  rw [Nat.div_div_eq_div_mul, Nat.pow_succ]
theorem div_pos_iff (n k : Nat) : 0 < n / 256 ^ k ↔ 256 ^ k ≤ n := by
  rw [Nat.div_pos_iff]
  have : 0 < 256 ^ k := Nat.pow_pos (by omega)
  omega
theorem low_get (n m k : Nat) (h : k < m) : (low n m)[k]? = some ((n / 256 ^ (m - 1 - k) % 256 : Nat) : Int) := by
  unfold low
  rw [List.getElem?_map, List.getElem?_range h]
  rfl

/-- The bytes of Var: seven bits a byte, the least first, 128 more on all but the last; f: at least as many rounds as it takes. -/
def vbF : Nat → Nat → List Int
  | 0, n => [(n : Int)]
  | f + 1, n => if n < 128 then [(n : Int)] else (128 + (n : Int) % 128) :: vbF f (n / 128)
def vb (n : Nat) : List Int := vbF n n
theorem vbF_eq : ∀ f g n : Nat, n ≤ f → n ≤ g → vbF f n = vbF g n
  | 0, 0, _, _, _ => rfl
  | 0, g + 1, n, h, _ => by rw [vbF, vbF, if_pos (by omega)]
  | f + 1, 0, n, _, h => by rw [vbF, vbF, if_pos (by omega)]
  | f + 1, g + 1, n, h1, h2 => by
    rw [vbF, vbF]
    by_cases h : n < 128
    · rw [if_pos h, if_pos h]
    · rw [if_neg h, if_neg h, vbF_eq f g (n / 128) (by omega) (by omega)]
theorem vb_small (n : Nat) (h : n < 128) : vb n = [(n : Int)] := by
  unfold vb
  cases n with
  | zero => rfl
  | succ f => rw [vbF, if_pos h]
theorem vb_big (n : Nat) (h : ¬ n < 128) : vb n = (128 + (n : Int) % 128) :: vb (n / 128) := by
  unfold vb
  cases n with
  | zero => exact absurd (by omega) h
  | succ f => rw [vbF, if_neg h, vbF_eq f ((f + 1) / 128) ((f + 1) / 128) (by omega) (by omega)]
theorem vb_len (k : Nat) : ∀ n, n < 128 ^ (k + 1) → (vb n).length ≤ k + 1 := by
  induction k with
  | zero => intro n h; rw [vb_small n (by simpa using h)]; simp
  | succ k ih =>
    intro n h
    by_cases hs : n < 128
    · rw [vb_small n hs]; simp
    · rw [vb_big n hs, List.length_cons]
      have := ih (n / 128) (by rw [Nat.pow_succ] at h; omega)
      omega
theorem vb_len7 (n : Nat) (h : n ≤ 562949953421311) : (vb n).length ≤ 7 := by
  have e : (128 : Nat) ^ 7 = 562949953421312 := by decide
  exact vb_len 6 n (by omega)
theorem vb_pos (n : Nat) : 0 < (vb n).length := by
  by_cases h : n < 128
  · rw [vb_small n h]; simp
  · rw [vb_big n h]; simp

theorem or128 (a : Int) (h0 : 0 ≤ a) (h1 : a < 128) : bits .or .i64 a 128 = 128 + a := by
  obtain ⟨A, rfl⟩ := Int.eq_ofNat_of_zero_le h0
  have e : (128 : Int) = ((128 : Nat) : Int) := rfl
  rw [e, i64_or_nat _ _ (by omega) (by omega), Nat.or_comm, nat_join 7 128 A (by decide) (by omega)]
  omega

end Plain
end Go.Proofs.Ytelfhodaahpggaj
