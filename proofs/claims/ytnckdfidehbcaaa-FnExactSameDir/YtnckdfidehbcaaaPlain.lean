/-
  Plain facts on bytes and numbers, with no Go in sight: what a row of bytes says as a number, and how Go's 'or', 'and' and shifts on int come to sums, remainders and quotients where nothing overlaps.
-/
import Derived.WalkKit
import Derived.Laws.BitsAllLaws
import Derived.Laws.Bits128
import Derived.Laws.BytesArg
import Derived.Laws.Concat
namespace Go.Proofs.Ytnckdfidehbcaaa
namespace Plain

theorem ofInt_i64 (a : Nat) (ha : a < 18446744073709551616) : (BitVec.ofInt 64 (a : Int)).toNat = a := by
  rw [BitVec.ofInt_natCast, BitVec.toNat_ofNat]; exact Nat.mod_eq_of_lt (by omega)

theorem i64_or_nat (a b : Nat) (ha : a < 9223372036854775808) (hb : b < 9223372036854775808) : bits .or .i64 (a : Int) (b : Int) = ((a ||| b : Nat) : Int) := by
  have hx : a ||| b < 2 ^ 63 := Nat.or_lt_two_pow (by omega) (by omega)
  show IntKind.i64.wrap ((BitVec.ofInt 64 (a : Int) ||| BitVec.ofInt 64 (b : Int)).toNat : Int) = _
  rw [BitVec.toNat_or, ofInt_i64 a (by omega), ofInt_i64 b (by omega), IntKind.wrap_i64]
  omega

theorem i64_and_nat (a b : Nat) (ha : a < 9223372036854775808) (hb : b < 9223372036854775808) : bits .and .i64 (a : Int) (b : Int) = ((a &&& b : Nat) : Int) := by
  have hx : a &&& b < 2 ^ 63 := Nat.and_lt_two_pow _ (by omega)
  show IntKind.i64.wrap ((BitVec.ofInt 64 (a : Int) &&& BitVec.ofInt 64 (b : Int)).toNat : Int) = _
  rw [BitVec.toNat_and, ofInt_i64 a (by omega), ofInt_i64 b (by omega), IntKind.wrap_i64]
  omega

/-- 'n<<8 | c' where c is a byte. -/
theorem or_byte (a : Int) (b : Int) (h0 : 0 ≤ a) (h1 : a < 36028797018963968) (h2 : 0 ≤ b) (h3 : b < 256) : bits .or .i64 (a * 256) b = a * 256 + b := by
  obtain ⟨A, rfl⟩ := Int.eq_ofNat_of_zero_le h0
  obtain ⟨B, rfl⟩ := Int.eq_ofNat_of_zero_le h2
  have e : ((A : Int) * 256) = ((A * 256 : Nat) : Int) := by omega
  rw [e, i64_or_nat _ _ (by omega) (by omega), nat_join 8 (A * 256) B (by omega) (by omega)]
  omega

/-- The byte at place k, 0 behind the end. -/
def byteAt (s : ByteArray) (k : Nat) : Nat := if h : k < s.size then s[k].toNat else 0
theorem byteAt_eq (s : ByteArray) (k : Nat) (h : k < s.size) : byteAt s k = s[k].toNat := by simp [byteAt, h]
theorem byteAt_lt (s : ByteArray) (k : Nat) : byteAt s k < 256 := by
  unfold byteAt
  split
  · exact UInt8.toNat_lt _
  · omega

/-- What the first k bytes say, the greatest first. -/
def fixVal (s : ByteArray) : Nat → Nat
  | 0 => 0
  | k + 1 => fixVal s k * 256 + byteAt s k
theorem fixVal_lt (s : ByteArray) (k : Nat) : fixVal s k < 256 ^ k := by
  induction k with
  | zero => simp [fixVal]
  | succ k ih =>
    have := byteAt_lt s k
    simp only [fixVal, Nat.pow_succ]
    omega
theorem fixVal_bd (s : ByteArray) (k : Nat) (h : k ≤ 6) : fixVal s k < 281474976710656 := by
  have h1 := fixVal_lt s k
  have h2 : 256 ^ k ≤ 256 ^ 6 := Nat.pow_le_pow_right (by omega) h
  have h3 : (256 : Nat) ^ 6 = 281474976710656 := by decide
  omega

theorem strOfNums_append (xs ys : List Int) : strOfNums xs ++ strOfNums ys = strOfNums (xs ++ ys) := by
  unfold strOfNums
  rw [ByteArray.mk_append_mk]
  simp

/-- The m low bytes of n, the greatest first. -/
def low (n m : Nat) : List Int := (List.range m).map fun i => ((n / 256 ^ (m - 1 - i) % 256 : Nat) : Int)
theorem low_length (n m : Nat) : (low n m).length = m := by simp [low]
theorem low_succ (n k : Nat) : low n (k + 1) = ((n / 256 ^ k % 256 : Nat) : Int) :: low n k := by
  unfold low
  rw [List.range_succ_eq_map, List.map_cons, List.map_map]
  congr 1
  apply List.map_congr_left
  intro i hi
  have hi' : i < k := by simpa using hi
  simp only [Function.comp, Nat.succ_eq_add_one]
  rw [show k + 1 - 1 - (i + 1) = k - 1 - i from by omega]
theorem div_step (n k : Nat) : n / 256 ^ k / 256 = n / 256 ^ (k + 1) := by
  rw [Nat.div_div_eq_div_mul, Nat.pow_succ]
theorem div_pos_iff (n k : Nat) : 0 < n / 256 ^ k ↔ 256 ^ k ≤ n := by
  rw [Nat.div_pos_iff]
  have : 0 < 256 ^ k := Nat.pow_pos (by omega)
  omega
theorem low_get (n m k : Nat) (h : k < m) : (low n m)[k]? = some ((n / 256 ^ (m - 1 - k) % 256 : Nat) : Int) := by
  unfold low
  rw [List.getElem?_map, List.getElem?_range h]
  rfl

/-- The bytes of Var: seven bits a byte, the least first, 128 more on all but the last; f: at least as many rounds as it takes. -/
def vbF : Nat → Nat → List Int
  | 0, n => [(n : Int)]
  | f + 1, n => if n < 128 then [(n : Int)] else (128 + (n : Int) % 128) :: vbF f (n / 128)
def vb (n : Nat) : List Int := vbF n n
theorem vbF_eq : ∀ f g n : Nat, n ≤ f → n ≤ g → vbF f n = vbF g n
  | 0, 0, _, _, _ => rfl
  | 0, g + 1, n, h, _ => by rw [vbF, vbF, if_pos (by omega)]
  | f + 1, 0, n, _, h => by rw [vbF, vbF, if_pos (by omega)]
  | f + 1, g + 1, n, h1, h2 => by
    rw [vbF, vbF]
    by_cases h : n < 128
    · rw [if_pos h, if_pos h]
    · rw [if_neg h, if_neg h, vbF_eq f g (n / 128) (by omega) (by omega)]
theorem vb_small (n : Nat) (h : n < 128) : vb n = [(n : Int)] := by
  unfold vb
  cases n with
  | zero => rfl
  | succ f => rw [vbF, if_pos h]
theorem vb_big (n : Nat) (h : ¬ n < 128) : vb n = (128 + (n : Int) % 128) :: vb (n / 128) := by
  unfold vb
  cases n with
  | zero => exact absurd (by omega) h
  | succ f => rw [vbF, if_neg h, vbF_eq f ((f + 1) / 128) ((f + 1) / 128) (by omega) (by omega)]
theorem vb_len (k : Nat) : ∀ n, n < 128 ^ (k + 1) → (vb n).length ≤ k + 1 := by
  induction k with
  | zero => intro n h; rw [vb_small n (by simpa using h)]; simp
  | succ k ih =>
    intro n h
    by_cases hs : n < 128
    · rw [vb_small n hs]; simp
    · rw [vb_big n hs, List.length_cons]
      have := ih (n / 128) (by rw [Nat.pow_succ] at h; omega)
      omega
theorem vb_len7 (n : Nat) (h : n ≤ 562949953421311) : (vb n).length ≤ 7 := by
  have e : (128 : Nat) ^ 7 = 562949953421312 := by decide
  exact vb_len 6 n (by omega)
theorem vb_pos (n : Nat) : 0 < (vb n).length := by
  by_cases h : n < 128
  · rw [vb_small n h]; simp
  · rw [vb_big n h]; simp

theorem or128 (a : Int) (h0 : 0 ≤ a) (h1 : a < 128) : bits .or .i64 a 128 = 128 + a := by
  obtain ⟨A, rfl⟩ := Int.eq_ofNat_of_zero_le h0
  have e : (128 : Int) = ((128 : Nat) : Int) := rfl
  rw [e, i64_or_nat _ _ (by omega) (by omega), Nat.or_comm, nat_join 7 128 A (by decide) (by omega)]
  omega


/-- What bytes say, seven bits each, the least first. -/
def vval : List Nat → Nat
  | [] => 0
  | b :: r => b % 128 + 128 * vval r
theorem vval_snoc (l : List Nat) (b : Nat) : vval (l ++ [b]) = vval l + (b % 128) * 128 ^ l.length := by
  induction l with
  | nil => simp [vval]
  | cons a r ih =>
    rw [List.cons_append, vval, ih, vval, List.length_cons, Nat.pow_succ, Nat.mul_add]
    have : 128 * (b % 128 * 128 ^ r.length) = b % 128 * (128 ^ r.length * 128) := by rw [Nat.mul_comm, Nat.mul_assoc]
    omega
theorem vval_lt (l : List Nat) : vval l < 128 ^ l.length := by
  induction l with
  | nil => simp [vval]
  | cons a r ih =>
    rw [vval, List.length_cons, Nat.pow_succ]
    have := Nat.mod_lt a (show 0 < 128 by omega)
    omega
theorem vval_bd (l : List Nat) (h : l.length ≤ 7) : vval l ≤ 562949953421311 := by
  have h1 := vval_lt l
  have h2 : 128 ^ l.length ≤ 128 ^ 7 := Nat.pow_le_pow_right (by omega) h
  have h3 : (128 : Nat) ^ 7 = 562949953421312 := by decide
  omega

/-- The bytes are the Var of what they say. -/
def IsVar (l : List Nat) : Prop := vb (vval l) = l.map (fun b : Nat => (b : Int))
/-- The same, place by place. -/
def GoodVar (l : List Nat) : Prop := l ≠ [] ∧ (∀ j, j + 1 < l.length → 128 ≤ l.getD j 0) ∧ l.getD (l.length - 1) 0 < 128 ∧ (l.length = 1 ∨ l.getD (l.length - 1) 0 ≠ 0)

theorem good_one (b : Nat) : GoodVar [b] ↔ b < 128 := by simp [GoodVar]
theorem good_cons (b c : Nat) (r : List Nat) : GoodVar (b :: c :: r) ↔ 128 ≤ b ∧ c :: r ≠ [0] ∧ GoodVar (c :: r) := by
  constructor
  · rintro ⟨_, h1, h2, h3⟩
    refine ⟨by simpa using h1 0 (by simp), ?_, by simp, ?_, ?_, ?_⟩
    · intro e
      injection e with e1 e2
      subst e1; subst e2
      simp at h3
    · intro j hj
      have := h1 (j + 1) (by simp at hj ⊢; omega)
      simpa using this
    · simpa using h2
    · rcases h3 with h3 | h3
      · simp at h3
      · exact Or.inr (by simpa using h3)
  · rintro ⟨h0, hz, _, h1, h2, h3⟩
    refine ⟨by simp, ?_, by simpa using h2, Or.inr ?_⟩
    · intro j hj
      cases j with
      | zero => simpa using h0
      | succ j =>
        have := h1 j (by simp at hj ⊢; omega)
        simpa using this
    · rcases h3 with h3 | h3
      · cases r with
        | nil => simp at hz ⊢; exact hz
        | cons d t => simp at h3
      · simpa using h3
theorem isVar_iff (l : List Nat) (hb : ∀ b ∈ l, b < 256) : IsVar l ↔ GoodVar l := by
  induction l with
  | nil =>
    constructor
    · intro h
      have h1 := congrArg List.length h
      have h2 := vb_pos (vval [])
      rw [h1] at h2
      simp at h2
    · intro h; exact absurd rfl h.1
  | cons b t ih =>
    have hbb := hb b (by simp)
    cases t with
    | nil =>
      rw [good_one]
      unfold IsVar
      have e : vval [b] = b % 128 := by simp [vval]
      rw [e, vb_small _ (Nat.mod_lt _ (by omega))]
      simp
      omega
    | cons c r =>
      rw [good_cons, ← ih (fun x hx => hb x (by simp [hx]))]
      unfold IsVar
      have e : vval (b :: c :: r) = b % 128 + 128 * vval (c :: r) := rfl
      generalize hv : vval (c :: r) = v at *
      rw [e]
      by_cases h0 : v = 0
      · subst h0
        rw [vb_small _ (by omega), vb_small 0 (by omega)]
        constructor
        · intro h; simp at h
        · rintro ⟨_, h1, h2⟩
          exfalso
          apply h1
          simp at h2
          rw [h2.2]
          simp
          omega
      · rw [vb_big _ (by omega), show (b % 128 + 128 * v) / 128 = v from by omega]
        rw [List.map_cons, List.cons.injEq]
        constructor
        · rintro ⟨h1, h2⟩
          refine ⟨by omega, ?_, h2⟩
          intro h
          rw [h] at hv
          simp [vval] at hv
          omega
        · rintro ⟨h1, _, h2⟩
          exact ⟨by omega, h2⟩

/-- The bytes of a text, as numbers. -/
def bl (s : ByteArray) : List Nat := s.data.toList.map UInt8.toNat
theorem bl_length (s : ByteArray) : (bl s).length = s.size := by rw [bl, List.length_map]; rfl
theorem bl_get (s : ByteArray) (k : Nat) (h : k < s.size) : (bl s)[k]? = some s[k].toNat := by
  have h' : k < s.data.toList.length := by simpa using h
  simp only [bl, List.getElem?_map, List.getElem?_eq_getElem h']
  rfl
theorem bl_lt (s : ByteArray) (k : Nat) : ∀ b ∈ (bl s).take k, b < 256 := by
  intro b hb
  have := List.mem_of_mem_take hb
  simp only [bl, List.mem_map] at this
  obtain ⟨x, _, rfl⟩ := this
  exact UInt8.toNat_lt x
theorem bl_take_succ (s : ByteArray) (k : Nat) (h : k < s.size) : (bl s).take (k + 1) = (bl s).take k ++ [s[k].toNat] := by
  have h' : k < (bl s).length := by rw [bl_length]; exact h
  rw [List.take_succ_eq_append_getElem h']
  have := bl_get s k h
  rw [List.getElem?_eq_getElem h'] at this
  simp at this
  rw [this]

/-- What ReadVar answers: the number and how many bytes it took. -/
def RV (s : ByteArray) (n k : Nat) : Prop :=
  (1 ≤ k ∧ k ≤ 7 ∧ k ≤ s.size ∧ IsVar ((bl s).take k) ∧ n = vval ((bl s).take k) ∧ ∀ j, 1 ≤ j → j < k → ¬ IsVar ((bl s).take j)) ∨
  (n = 0 ∧ k = 0 ∧ ∀ j, 1 ≤ j → j ≤ 7 → j ≤ s.size → ¬ IsVar ((bl s).take j))
theorem RV_one {s : ByteArray} {n k n' k' : Nat} (h : RV s n k) (h' : RV s n' k') : n = n' ∧ k = k' := by
  rcases h with ⟨a1, a2, a3, a4, a5, a6⟩ | ⟨a1, a2, a3⟩
  · rcases h' with ⟨b1, b2, b3, b4, b5, b6⟩ | ⟨b1, b2, b3⟩
    · have : k = k' := by
        rcases Nat.lt_trichotomy k k' with h | h | h
        · exact absurd a4 (b6 k a1 h)
        · exact h
        · exact absurd b4 (a6 k' b1 h)
      subst this
      exact ⟨by rw [a5, b5], rfl⟩
    · exact absurd a4 (b3 k a1 a2 a3)
  · rcases h' with ⟨b1, b2, b3, b4, b5, b6⟩ | ⟨b1, b2, b3⟩
    · exact absurd b4 (a3 k' b1 b2 b3)
    · exact ⟨by omega, by omega⟩

theorem isVar_take (s : ByteArray) (k : Nat) (h1 : 1 ≤ k) (h2 : k ≤ s.size) : IsVar ((bl s).take k) ↔ (∀ j, j + 1 < k → 128 ≤ (bl s).getD j 0) ∧ (bl s).getD (k - 1) 0 < 128 ∧ (k = 1 ∨ (bl s).getD (k - 1) 0 ≠ 0) := by
  rw [isVar_iff _ (bl_lt s k)]
  have hl : ((bl s).take k).length = k := by rw [List.length_take, bl_length]; omega
  have hg : ∀ j, j < k → ((bl s).take k).getD j 0 = (bl s).getD j 0 := by
    intro j hj
    simp [List.getD, hj]
  unfold GoodVar
  rw [hl, hg (k - 1) (by omega)]
  constructor
  · rintro ⟨_, a, b, c⟩
    exact ⟨fun j hj => by rw [← hg j (by omega)]; exact a j hj, b, c⟩
  · rintro ⟨a, b, c⟩
    refine ⟨?_, fun j hj => by rw [hg j (by omega)]; exact a j hj, b, c⟩
    intro e
    rw [e] at hl
    simp at hl
    omega

/-- The ways in which impl.ReadVar ends. -/
theorem RV_hit (s : ByteArray) (i : Nat) (hi : i < 7) (hs : i < s.size) (ha : ∀ j, j < i → 128 ≤ (bl s).getD j 0) (hb : (bl s).getD i 0 < 128) (hz : i = 0 ∨ (bl s).getD i 0 ≠ 0) : RV s (vval ((bl s).take (i + 1))) (i + 1) := by
  refine Or.inl ⟨by omega, by omega, by omega, ?_, rfl, ?_⟩
  · rw [isVar_take s (i + 1) (by omega) (by omega)]
    exact ⟨fun j hj => ha j (by omega), by simpa using hb, by rcases hz with h | h; · exact Or.inl (by omega)
                                                              · exact Or.inr (by simpa using h)⟩
  · intro j h1 h2 h
    rw [isVar_take s j h1 (by omega)] at h
    have := ha (j - 1) (by omega)
    omega
theorem RV_nought (s : ByteArray) (i : Nat) (_hi : i < 7) (_hs : i < s.size) (ha : ∀ j, j < i → 128 ≤ (bl s).getD j 0) (h0 : 0 < i) (hb : (bl s).getD i 0 = 0) : RV s 0 0 := by
  refine Or.inr ⟨rfl, rfl, ?_⟩
  intro j h1 _ h3 h
  rw [isVar_take s j h1 h3] at h
  obtain ⟨a, b, c⟩ := h
  rcases Nat.lt_trichotomy j (i + 1) with h | h | h
  · have := ha (j - 1) (by omega)
    omega
  · subst h
    rw [Nat.add_sub_cancel] at c
    omega
  · have := a i (by omega)
    omega
theorem RV_none (s : ByteArray) (m : Nat) (hm : m = 7 ∨ m = s.size) (ha : ∀ j, j < m → 128 ≤ (bl s).getD j 0) : RV s 0 0 := by
  refine Or.inr ⟨rfl, rfl, ?_⟩
  intro j h1 h2 h3 h
  rw [isVar_take s j h1 h3] at h
  have := ha (j - 1) (by omega)
  omega

end Plain
end Go.Proofs.Ytnckdfidehbcaaa
