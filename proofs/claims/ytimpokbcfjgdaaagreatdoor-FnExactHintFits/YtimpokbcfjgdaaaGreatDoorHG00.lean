/-
  Plain facts on bytes and numbers, with no Go in sight: what a row of bytes says as a number, and how Go's 'or', 'and' and shifts on int come to sums, remainders and quotients where nothing overlaps. Small laws on rows of bytes that a call has made itself (made, appended to, told as a string), and on the digits of a hexadecimal text. Rows of structs: a slice whose elements are k cells each, read and owned; for every kind of element. Rows of structs: one element put into its place; a slice of structs that comes in. What spec.l1In answers. Records in plain words: their six fields, which are right, and which key is one.
-/
import Derived.WalkKit
import Derived.Laws.BitsAllLaws
import Derived.Laws.Bits128
import Derived.Laws.BytesArg
import Derived.Laws.Concat
import Derived.Test.YtimpokbcfjgdaaaGreatDoorProg
import Derived.Laws.CopyOwn
import Derived.Deep.RegionLaw
import Derived.Below
import Derived.Laws.StructEq
namespace Go.Proofs.YtimpokbcfjgdaaaGreatDoor
namespace Plain

theorem ofInt_i64 (a : Nat) (ha : a < 18446744073709551616) : (BitVec.ofInt 64 (a : Int)).toNat = a := by
  rw [BitVec.ofInt_natCast, BitVec.toNat_ofNat]; exact Nat.mod_eq_of_lt (by omega)

theorem i64_or_nat (a b : Nat) (ha : a < 9223372036854775808) (hb : b < 9223372036854775808) : bits .or .i64 (a : Int) (b : Int) = ((a ||| b : Nat) : Int) := by
  have hx : a ||| b < 2 ^ 63 := Nat.or_lt_two_pow (by omega) (by omega)
  show IntKind.i64.wrap ((BitVec.ofInt 64 (a : Int) ||| BitVec.ofInt 64 (b : Int)).toNat : Int) = _
  rw [BitVec.toNat_or, ofInt_i64 a (by omega), ofInt_i64 b (by omega), IntKind.wrap_i64]
  omega

theorem i64_and_nat (a b : Nat) (ha : a < 9223372036854775808) (hb : b < 9223372036854775808) : bits .and .i64 (a : Int) (b : Int) = ((a &&& b : Nat) : Int) := by
  have hx : a &&& b < 2 ^ 63 := Nat.and_lt_two_pow _ (by omega)
  show IntKind.i64.wrap ((BitVec.ofInt 64 (a : Int) &&& BitVec.ofInt 64 (b : Int)).toNat : Int) = _
  rw [BitVec.toNat_and, ofInt_i64 a (by omega), ofInt_i64 b (by omega), IntKind.wrap_i64]
  omega

/-- 'n<<8 | c' where c is a byte. -/
theorem or_byte (a : Int) (b : Int) (h0 : 0 ≤ a) (h1 : a < 36028797018963968) (h2 : 0 ≤ b) (h3 : b < 256) : bits .or .i64 (a * 256) b = a * 256 + b := by
  obtain ⟨A, rfl⟩ := Int.eq_ofNat_of_zero_le h0
  obtain ⟨B, rfl⟩ := Int.eq_ofNat_of_zero_le h2
  have e : ((A : Int) * 256) = ((A * 256 : Nat) : Int) := by omega
  rw [e, i64_or_nat _ _ (by omega) (by omega), nat_join 8 (A * 256) B (by omega) (by omega)]
  omega

/-- The byte at place k, 0 behind the end. -/
def byteAt (s : ByteArray) (k : Nat) : Nat := if h : k < s.size then s[k].toNat else 0
theorem byteAt_eq (s : ByteArray) (k : Nat) (h : k < s.size) : byteAt s k = s[k].toNat := by simp [byteAt, h]
theorem byteAt_lt (s : ByteArray) (k : Nat) : byteAt s k < 256 := by
  unfold byteAt
  split
  · exact UInt8.toNat_lt _
  · omega

/-- What the first k bytes say, the greatest first. -/
def fixVal (s : ByteArray) : Nat → Nat
  | 0 => 0
  | k + 1 => fixVal s k * 256 + byteAt s k
theorem fixVal_lt (s : ByteArray) (k : Nat) : fixVal s k < 256 ^ k := by
  induction k with
  | zero => simp [fixVal]
  | succ k ih =>
    have := byteAt_lt s k
    simp only [fixVal, Nat.pow_succ]
    omega
theorem fixVal_bd (s : ByteArray) (k : Nat) (h : k ≤ 6) : fixVal s k < 281474976710656 := by
  have h1 := fixVal_lt s k
  have h2 : 256 ^ k ≤ 256 ^ 6 := Nat.pow_le_pow_right (by omega) h
  have h3 : (256 : Nat) ^ 6 = 281474976710656 := by decide
  omega

theorem strOfNums_append (xs ys : List Int) : strOfNums xs ++ strOfNums ys = strOfNums (xs ++ ys) := by
  unfold strOfNums
  rw [ByteArray.mk_append_mk]
  simp

/-- The m low bytes of n, the greatest first. -/
def low (n m : Nat) : List Int := (List.range m).map fun i => ((n / 256 ^ (m - 1 - i) % 256 : Nat) : Int)
theorem low_length (n m : Nat) : (low n m).length = m := by simp [low]
theorem low_succ (n k : Nat) : low n (k + 1) = ((n / 256 ^ k % 256 : Nat) : Int) :: low n k := by
  unfold low
  rw [List.range_succ_eq_map, List.map_cons, List.map_map]
  congr 1
  apply List.map_congr_left
  intro i hi
  have hi' : i < k := by simpa using hi
  simp only [Function.comp, Nat.succ_eq_add_one]
  rw [show k + 1 - 1 - (i + 1) = k - 1 - i from by omega]
theorem div_step (n k : Nat) : n / 256 ^ k / 256 = n / 256 ^ (k + 1) := by
  rw [Nat.div_div_eq_div_mul, Nat.pow_succ]
theorem div_pos_iff (n k : Nat) : 0 < n / 256 ^ k ↔ 256 ^ k ≤ n := by
  rw [Nat.div_pos_iff]
  have : 0 < 256 ^ k := Nat.pow_pos (by omega)
  omega
theorem low_get (n m k : Nat) (h : k < m) : (low n m)[k]? = some ((n / 256 ^ (m - 1 - k) % 256 : Nat) : Int) := by
  unfold low
  rw [List.getElem?_map, List.getElem?_range h]
  rfl

/-- The bytes of Var: seven bits a byte, the least first, 128 more on all but the last; f: at least as many rounds as it takes. -/
def vbF : Nat → Nat → List Int
  | 0, n => [(n : Int)]
  | f + 1, n => if n < 128 then [(n : Int)] else (128 + (n : Int) % 128) :: vbF f (n / 128)
def vb (n : Nat) : List Int := vbF n n
theorem vbF_eq : ∀ f g n : Nat, n ≤ f → n ≤ g → vbF f n = vbF g n
  | 0, 0, _, _, _ => rfl
  | 0, g + 1, n, h, _ => by rw [vbF, vbF, if_pos (by omega)]
  | f + 1, 0, n, _, h => by rw [vbF, vbF, if_pos (by omega)]
  | f + 1, g + 1, n, h1, h2 => by
    rw [vbF, vbF]
    by_cases h : n < 128
    · rw [if_pos h, if_pos h]
    · rw [if_neg h, if_neg h, vbF_eq f g (n / 128) (by omega) (by omega)]
theorem vb_small (n : Nat) (h : n < 128) : vb n = [(n : Int)] := by
  unfold vb
  cases n with
  | zero => rfl
  | succ f => rw [vbF, if_pos h]
theorem vb_big (n : Nat) (h : ¬ n < 128) : vb n = (128 + (n : Int) % 128) :: vb (n / 128) := by
  unfold vb
  cases n with
  | zero => exact absurd (by omega) h
  | succ f => rw [vbF, if_neg h, vbF_eq f ((f + 1) / 128) ((f + 1) / 128) (by omega) (by omega)]
theorem vb_len (k : Nat) : ∀ n, n < 128 ^ (k + 1) → (vb n).length ≤ k + 1 := by
  induction k with
  | zero => intro n h; rw [vb_small n (by simpa using h)]; simp
  | succ k ih =>
    intro n h
    by_cases hs : n < 128
    · rw [vb_small n hs]; simp
    · rw [vb_big n hs, List.length_cons]
      have := ih (n / 128) (by rw [Nat.pow_succ] at h; omega)
      omega
theorem vb_len7 (n : Nat) (h : n ≤ 562949953421311) : (vb n).length ≤ 7 := by
  have e : (128 : Nat) ^ 7 = 562949953421312 := by decide
  exact vb_len 6 n (by omega)
theorem vb_pos (n : Nat) : 0 < (vb n).length := by
  by_cases h : n < 128
  · rw [vb_small n h]; simp
  · rw [vb_big n h]; simp

theorem or128 (a : Int) (h0 : 0 ≤ a) (h1 : a < 128) : bits .or .i64 a 128 = 128 + a := by
  obtain ⟨A, rfl⟩ := Int.eq_ofNat_of_zero_le h0
  have e : (128 : Int) = ((128 : Nat) : Int) := rfl
  rw [e, i64_or_nat _ _ (by omega) (by omega), Nat.or_comm, nat_join 7 128 A (by decide) (by omega)]
  omega


/-- What bytes say, seven bits each, the least first. -/
def vval : List Nat → Nat
  | [] => 0
  | b :: r => b % 128 + 128 * vval r
theorem vval_snoc (l : List Nat) (b : Nat) : vval (l ++ [b]) = vval l + (b % 128) * 128 ^ l.length := by
  induction l with
  | nil => simp [vval]
  | cons a r ih =>
    rw [List.cons_append, vval, ih, vval, List.length_cons, Nat.pow_succ, Nat.mul_add]
    have : 128 * (b % 128 * 128 ^ r.length) = b % 128 * (128 ^ r.length * 128) := by rw [Nat.mul_comm, Nat.mul_assoc]
    omega
theorem vval_lt (l : List Nat) : vval l < 128 ^ l.length := by
  induction l with
  | nil => simp [vval]
  | cons a r ih =>
    rw [vval, List.length_cons, Nat.pow_succ]
    have := Nat.mod_lt a (show 0 < 128 by omega)
    omega
theorem vval_bd (l : List Nat) (h : l.length ≤ 7) : vval l ≤ 562949953421311 := by
  have h1 := vval_lt l
  have h2 : 128 ^ l.length ≤ 128 ^ 7 := Nat.pow_le_pow_right (by omega) h
  have h3 : (128 : Nat) ^ 7 = 562949953421312 := by decide
  omega

/-- The bytes are the Var of what they say. -/
def IsVar (l : List Nat) : Prop := vb (vval l) = l.map (fun b : Nat => (b : Int))
/-- The same, place by place. -/
def GoodVar (l : List Nat) : Prop := l ≠ [] ∧ (∀ j, j + 1 < l.length → 128 ≤ l.getD j 0) ∧ l.getD (l.length - 1) 0 < 128 ∧ (l.length = 1 ∨ l.getD (l.length - 1) 0 ≠ 0)

theorem good_one (b : Nat) : GoodVar [b] ↔ b < 128 := by simp [GoodVar]
theorem good_cons (b c : Nat) (r : List Nat) : GoodVar (b :: c :: r) ↔ 128 ≤ b ∧ c :: r ≠ [0] ∧ GoodVar (c :: r) := by
  constructor
  · rintro ⟨_, h1, h2, h3⟩
    refine ⟨by simpa using h1 0 (by simp), ?_, by simp, ?_, ?_, ?_⟩
    · intro e
      injection e with e1 e2
      subst e1; subst e2
      simp at h3
    · intro j hj
      have := h1 (j + 1) (by simp at hj ⊢; omega)
      simpa using this
    · simpa using h2
    · rcases h3 with h3 | h3
      · simp at h3
      · exact Or.inr (by simpa using h3)
  · rintro ⟨h0, hz, _, h1, h2, h3⟩
    refine ⟨by simp, ?_, by simpa using h2, Or.inr ?_⟩
    · intro j hj
      cases j with
      | zero => simpa using h0
      | succ j =>
        have := h1 j (by simp at hj ⊢; omega)
        simpa using this
    · rcases h3 with h3 | h3
      · cases r with
        | nil => simp at hz ⊢; exact hz
        | cons d t => simp at h3
      · simpa using h3
theorem isVar_iff (l : List Nat) (hb : ∀ b ∈ l, b < 256) : IsVar l ↔ GoodVar l := by
  induction l with
  | nil =>
    constructor
    · intro h
      have h1 := congrArg List.length h
      have h2 := vb_pos (vval [])
      rw [h1] at h2
      simp at h2
    · intro h; exact absurd rfl h.1
  | cons b t ih =>
    have hbb := hb b (by simp)
    cases t with
    | nil =>
      rw [good_one]
      unfold IsVar
      have e : vval [b] = b % 128 := by simp [vval]
      rw [e, vb_small _ (Nat.mod_lt _ (by omega))]
      simp
      omega
    | cons c r =>
      rw [good_cons, ← ih (fun x hx => hb x (by simp [hx]))]
      unfold IsVar
      have e : vval (b :: c :: r) = b % 128 + 128 * vval (c :: r) := rfl
      generalize hv : vval (c :: r) = v at *
      rw [e]
      by_cases h0 : v = 0
      · subst h0
        rw [vb_small _ (by omega), vb_small 0 (by omega)]
        constructor
        · intro h; simp at h
        · rintro ⟨_, h1, h2⟩
          exfalso
          apply h1
          simp at h2
          rw [h2.2]
          simp
          omega
      · rw [vb_big _ (by omega), show (b % 128 + 128 * v) / 128 = v from by omega]
        rw [List.map_cons, List.cons.injEq]
        constructor
        · rintro ⟨h1, h2⟩
          refine ⟨by omega, ?_, h2⟩
          intro h
          rw [h] at hv
          simp [vval] at hv
          omega
        · rintro ⟨h1, _, h2⟩
          exact ⟨by omega, h2⟩

/-- The bytes of a text, as numbers. -/
def bl (s : ByteArray) : List Nat := s.data.toList.map UInt8.toNat
theorem bl_length (s : ByteArray) : (bl s).length = s.size := by rw [bl, List.length_map]; rfl
theorem bl_get (s : ByteArray) (k : Nat) (h : k < s.size) : (bl s)[k]? = some s[k].toNat := by
  have h' : k < s.data.toList.length := by simpa using h
  simp only [bl, List.getElem?_map, List.getElem?_eq_getElem h']
  rfl
theorem bl_lt (s : ByteArray) (k : Nat) : ∀ b ∈ (bl s).take k, b < 256 := by
  intro b hb
  have := List.mem_of_mem_take hb
  simp only [bl, List.mem_map] at this
  obtain ⟨x, _, rfl⟩ := this
  exact UInt8.toNat_lt x
theorem bl_take_succ (s : ByteArray) (k : Nat) (h : k < s.size) : (bl s).take (k + 1) = (bl s).take k ++ [s[k].toNat] := by
  have h' : k < (bl s).length := by rw [bl_length]; exact h
  rw [List.take_succ_eq_append_getElem h']
  have := bl_get s k h
  rw [List.getElem?_eq_getElem h'] at this
  simp at this
  rw [this]

/-- What ReadVar answers: the number and how many bytes it took. -/
def RV (s : ByteArray) (n k : Nat) : Prop :=
  (1 ≤ k ∧ k ≤ 7 ∧ k ≤ s.size ∧ IsVar ((bl s).take k) ∧ n = vval ((bl s).take k) ∧ ∀ j, 1 ≤ j → j < k → ¬ IsVar ((bl s).take j)) ∨
  (n = 0 ∧ k = 0 ∧ ∀ j, 1 ≤ j → j ≤ 7 → j ≤ s.size → ¬ IsVar ((bl s).take j))
theorem RV_one {s : ByteArray} {n k n' k' : Nat} (h : RV s n k) (h' : RV s n' k') : n = n' ∧ k = k' := by
  rcases h with ⟨a1, a2, a3, a4, a5, a6⟩ | ⟨a1, a2, a3⟩
  · rcases h' with ⟨b1, b2, b3, b4, b5, b6⟩ | ⟨b1, b2, b3⟩
    · have : k = k' := by
        rcases Nat.lt_trichotomy k k' with h | h | h
        · exact absurd a4 (b6 k a1 h)
        · exact h
        · exact absurd b4 (a6 k' b1 h)
      subst this
      exact ⟨by rw [a5, b5], rfl⟩
    · exact absurd a4 (b3 k a1 a2 a3)
  · rcases h' with ⟨b1, b2, b3, b4, b5, b6⟩ | ⟨b1, b2, b3⟩
    · exact absurd b4 (a3 k' b1 b2 b3)
    · exact ⟨by omega, by omega⟩

theorem isVar_take (s : ByteArray) (k : Nat) (h1 : 1 ≤ k) (h2 : k ≤ s.size) : IsVar ((bl s).take k) ↔ (∀ j, j + 1 < k → 128 ≤ (bl s).getD j 0) ∧ (bl s).getD (k - 1) 0 < 128 ∧ (k = 1 ∨ (bl s).getD (k - 1) 0 ≠ 0) := by
  rw [isVar_iff _ (bl_lt s k)]
  have hl : ((bl s).take k).length = k := by rw [List.length_take, bl_length]; omega
  have hg : ∀ j, j < k → ((bl s).take k).getD j 0 = (bl s).getD j 0 := by
    intro j hj
    simp [List.getD, hj]
  unfold GoodVar
  rw [hl, hg (k - 1) (by omega)]
  constructor
  · rintro ⟨_, a, b, c⟩
    exact ⟨fun j hj => by rw [← hg j (by omega)]; exact a j hj, b, c⟩
  · rintro ⟨a, b, c⟩
    refine ⟨?_, fun j hj => by rw [hg j (by omega)]; exact a j hj, b, c⟩
    intro e
    rw [e] at hl
    simp at hl
    omega

/-- The ways in which impl.ReadVar ends. -/
theorem RV_hit (s : ByteArray) (i : Nat) (hi : i < 7) (hs : i < s.size) (ha : ∀ j, j < i → 128 ≤ (bl s).getD j 0) (hb : (bl s).getD i 0 < 128) (hz : i = 0 ∨ (bl s).getD i 0 ≠ 0) : RV s (vval ((bl s).take (i + 1))) (i + 1) := by
  refine Or.inl ⟨by omega, by omega, by omega, ?_, rfl, ?_⟩
  · rw [isVar_take s (i + 1) (by omega) (by omega)]
    exact ⟨fun j hj => ha j (by omega), by simpa using hb, by rcases hz with h | h; · exact Or.inl (by omega)
                                                              · exact Or.inr (by simpa using h)⟩
  · intro j h1 h2 h
    rw [isVar_take s j h1 (by omega)] at h
    have := ha (j - 1) (by omega)
    omega
theorem RV_nought (s : ByteArray) (i : Nat) (_hi : i < 7) (_hs : i < s.size) (ha : ∀ j, j < i → 128 ≤ (bl s).getD j 0) (h0 : 0 < i) (hb : (bl s).getD i 0 = 0) : RV s 0 0 := by
  refine Or.inr ⟨rfl, rfl, ?_⟩
  intro j h1 _ h3 h
  rw [isVar_take s j h1 h3] at h
  obtain ⟨a, b, c⟩ := h
  rcases Nat.lt_trichotomy j (i + 1) with h | h | h
  · have := ha (j - 1) (by omega)
    omega
  · subst h
    rw [Nat.add_sub_cancel] at c
    omega
  · have := a i (by omega)
    omega
theorem RV_none (s : ByteArray) (m : Nat) (hm : m = 7 ∨ m = s.size) (ha : ∀ j, j < m → 128 ≤ (bl s).getD j 0) : RV s 0 0 := by
  refine Or.inr ⟨rfl, rfl, ?_⟩
  intro j h1 h2 h3 h
  rw [isVar_take s j h1 h3] at h
  have := ha (j - 1) (by omega)
  omega

end Plain
end Go.Proofs.YtimpokbcfjgdaaaGreatDoor
namespace Go.Proofs.YtimpokbcfjgdaaaGreatDoor
open Go.RowKit
open Plain

theorem hide {p : Prop} (h : p) : Hid p := h
theorem ret_two {k : IntKind} {a b : Int} {c : Bool} (h : a = b) : Ending.returned (.tuple #[.int k a, .bool c]) = .returned (.tuple #[.int k b, .bool c]) := by rw [h]
theorem val_int {k : IntKind} {a b : Int} (h : a = b) : Value.int k a = .int k b := by rw [h]

theorem ret_ints {k : IntKind} {a b c d : Int} (h : a = b) (h2 : c = d) : Ending.returned (.tuple #[.int k a, .int k c]) = .returned (.tuple #[.int k b, .int k d]) := by rw [h, h2]
theorem getD_bl (s : ByteArray) (k : Nat) (h : k < s.size) : (bl s).getD k 0 = s[k].toNat := by rw [List.getD, bl_get s k h]; rfl

theorem Tryz.size5 : (Tryz.prog.info? 5).map (·.size) = some 1 := by kernel_rfl

theorem Tryz.info5 : (Tryz.prog.info? 5).map (fun i => (i.zero, i.size, i.bytes)) = some (some (.int .u8 0), 1, 1) := by kernel_rfl

/-- A row that 'make' has laid: its block, written out. -/
theorem made_row {w w1 : World} {n : Nat} {z : Value} (h : w1.ownsRow w.heap.size 5 1 (.slice (some ⟨w.heap.size, 0, none⟩) n n) n (madeCells #[z] (n * 1)).toList) :
    w1.heap[w.heap.size]? = some (.cells (List.replicate n z).toArray 5 (0, 0)) := by
  obtain ⟨_, h⟩ := h
  rcases h with ⟨h, _⟩ | ⟨g, cap, cur, hv, _, hh, _, _, hs, ht⟩
  · simp at h
  · simp only [Value.slice.injEq, Option.some.injEq, Addr.mk.injEq] at hv
    obtain ⟨⟨rfl, _⟩, _, rfl⟩ := hv
    rw [toList_madeCells_one] at ht
    rw [hh]
    have e : cur.toList = List.replicate n z := by
      rw [List.take_of_length_le (by simp [hs])] at ht
      simpa using ht
    rw [← e]

theorem cv_one (wr : World) (x : Int) : (convert 22 9 (.slice (some ⟨wr.heap.size, 0, none⟩) 1 1)).run Tryz.prog (wr.alloc (.cells #[.int .u8 x] 5)) = .ok (.string (strOfNums [x])) (wr.alloc (.cells #[.int .u8 x] 5)) := by
  refine run_convert_bytes_arg (P := Tryz.prog) (wr.alloc (.cells #[.int .u8 x] 5)) 22 5 Tryz.underlying22 Tryz.underlying5 wr.heap.size 0 1 1 [x] rfl ?_ 9 Tryz.underlying9
  intro i hi
  obtain rfl : i = 0 := by omega
  simp

theorem src_one (wr : World) (x : Int) (j : Nat) (v : Value) (h : [Value.int .u8 x][j]? = some v) : (wr.alloc (.cells #[.int .u8 x] 5)).cell? ((⟨wr.heap.size, 0, none⟩ : Addr).add j) = some v := by
  match j, h with
  | 0, h => simp at h; subst h; simp [Addr.add]
theorem one_one (x : Int) (v : Value) (h : v ∈ [Value.int .u8 x]) : v.oneCell' = true := by
  simp at h; subst h; rfl
theorem cv_own {w : World} {base n : Nat} {v : Value} {L : List Int} (h : w.ownsRow base 5 1 v n (L.map (Value.int .u8))) : (convert 22 9 v).run Tryz.prog w = .ok (.string (strOfNums L)) w := by
  have hl : L.length = n := by simpa using h.1
  rcases h.2 with ⟨rfl, h0⟩ | ⟨g, cap, cur, rfl, _, hg, hc, _, hs, ht⟩
  · have : L = [] := List.eq_nil_of_length_eq_zero (by omega)
    subst this
    exact run_convert_bytes_nil (P := Tryz.prog) w 22 5 Tryz.underlying22 Tryz.underlying5 0 0 9 Tryz.underlying9
  · refine run_convert_bytes_arg (P := Tryz.prog) w 22 5 Tryz.underlying22 Tryz.underlying5 g 0 n cap L hl ?_ 9 Tryz.underlying9
    intro i hi
    have hh : w.ownsRow base 5 1 (.slice (some ⟨g, 0, none⟩) n cap) n (L.map (Value.int .u8)) := h
    have := hh.cellAt i (by omega)
    rw [Nat.zero_add, this]
    have hi' : i < L.length := by omega
    simp [List.getD, hi']

/-- 'out = append(out, b)', out a row of bytes of the call's own (or nil): a law for the walk. -/
theorem wpList_app_byte {ops : Array Oper} {rest : List Oper} {o : Oper} {a : Act} {Q : Exit → Act → World → Prop} (hgd : o.guard = none) (s x : Operand)
    (ho : o.op = .call { callee := .builtin .append, args := #[s, x], argTypes := #[22, 22] }) {wr : World} {base n : Nat} {v : Value} {xs : List Value} (hown : wr.ownsRow base 5 1 v n xs) (hb : base ≤ wr.heap.size) (b : Int) (hn : n ≤ 4194304)
    (hs : a.eval s = v) (hx : a.eval x = .slice (some ⟨wr.heap.size, 0, none⟩) 1 1)
    (h : ∀ v' w', w'.ownsRow base 5 1 v' (n + 1) (xs ++ [.int .u8 b]) → Below base wr w' → wpList Tryz.prog ops Q rest (a.put o.dst v') w') : wpList Tryz.prog ops Q (o :: rest) a (wr.alloc (.cells #[.int .u8 b] 5)) := by
  obtain ⟨i0, hi, hz0, hz1, hz2⟩ := info_parts Tryz.info5
  refine wpList_append_own (P := Tryz.prog) (wr.alloc (.cells #[.int .u8 b] 5)) hgd s x 22 ho base 5 i0 (.int .u8 0) 1 1 Tryz.underlying22 hi hz0 hz1 hz2 rfl (by decide) v n xs hs (hown.alloc _)
    ⟨wr.heap.size, 0, none⟩ 1 1 [.int .u8 b] hx rfl (src_one wr b) (one_one b) (by unfold maxLen; omega) (by omega) (by simp; omega) ?_
  intro v' w' ho' hg _
  refine h v' w' ho' ?_
  refine ((Below.refl base wr).alloc hb _).grown hg (by simp; omega) ?_
  intro k hk
  exact (hown.lt k hk).1

/-- A row of N bytes whose first ones are p, the rest 0. -/
def rowOf (N : Nat) (p : List Int) : List Value := (p ++ List.replicate (N - p.length) 0).map (Value.int .u8)
theorem rowOf_len (N : Nat) (p : List Int) (h : p.length ≤ N) : (rowOf N p).length = N := by simp [rowOf]; omega
theorem rowOf_nil (N : Nat) : rowOf N [] = List.replicate N (.int .u8 0) := by simp [rowOf]
theorem rowOf_step (N : Nat) (p r : List Int) (h : p.length + r.length ≤ N) : splice (rowOf N p) p.length (r.map (Value.int .u8)) = rowOf N (p ++ r) := by
  unfold splice rowOf
  have e : List.replicate (N - p.length) (0 : Int) = List.replicate r.length 0 ++ List.replicate (N - (p ++ r).length) 0 := by
    rw [List.replicate_append_replicate]; congr 1; simp; omega
  rw [e]
  simp [List.drop_append]
/-- 'string(buf[:k])' of such a row. -/
theorem cv_pre {w : World} {g N k : Nat} {L : List Int} (h : w.heap[g]? = some (.cells (rowOf N L).toArray 5 (0, 0))) (hk : L.length = k) :
    (convert 22 9 (.slice (some ⟨g, 0, none⟩) k N)).run Tryz.prog w = .ok (.string (strOfNums L)) w := by
  refine run_convert_bytes_arg (P := Tryz.prog) w 22 5 Tryz.underlying22 Tryz.underlying5 g 0 k N L hk ?_ 9 Tryz.underlying9
  intro i hi
  have hi' : i < L.length := by omega
  simp only [World.cell?, h, rowOf]
  simp [List.getD, hi', List.getElem?_append]

theorem src_row (wr : World) (r : List Int) (j : Nat) (v : Value) (h : (r.map (Value.int .u8))[j]? = some v) : (wr.alloc (.cells (r.map (Value.int .u8)).toArray 5)).cell? ((⟨wr.heap.size, 0, none⟩ : Addr).add j) = some v := by
  have e : (⟨wr.heap.size, 0, none⟩ : Addr).add j = ⟨wr.heap.size, j, none⟩ := by unfold Addr.add; split <;> simp_all
  rw [e, cell_of_row _ _ _ _ _ _ (heap_alloc_new wr _)]
  rw [List.getElem?_toArray]
  exact h
theorem one_row (r : List Int) (v : Value) (h : v ∈ r.map (Value.int .u8)) : v.oneCell' = true := by
  simp at h
  obtain ⟨x, _, rfl⟩ := h
  rfl
/-- The byte of the digit k. -/
def dg (k : Nat) : Int := if k < 10 then 48 + (k : Int) else 87 + (k : Int)
def hexS : ByteArray := ⟨#[48, 49, 50, 51, 52, 53, 54, 55, 56, 57, 97, 98, 99, 100, 101, 102]⟩
theorem hexS_size : hexS.size = 16 := rfl
theorem hexS_get : ∀ (i : Nat) (h : i < hexS.size), ((hexS[i]'h).toNat : Int) = dg i := by
  intro i h
  have h' : i < 16 := h
  match i, h' with
  | 0, _ => rfl
  | 1, _ => rfl
  | 2, _ => rfl
  | 3, _ => rfl
  | 4, _ => rfl
  | 5, _ => rfl
  | 6, _ => rfl
  | 7, _ => rfl
  | 8, _ => rfl
  | 9, _ => rfl
  | 10, _ => rfl
  | 11, _ => rfl
  | 12, _ => rfl
  | 13, _ => rfl
  | 14, _ => rfl
  | 15, _ => rfl
  | n + 16, h' => exact absurd h' (by omega)
theorem idx_hex (k : IntKind) (i : Int) (h0 : 0 ≤ i) (h : i < 16) (w : World) : (Instr.index 9 (.string ⟨#[48, 49, 50, 51, 52, 53, 54, 55, 56, 57, 97, 98, 99, 100, 101, 102]⟩) (.int k i)).run Tryz.prog w = .ok (.int .u8 (dg i.toNat)) w := by
  have e := run_index_string (P := Tryz.prog) w 9 hexS k i Tryz.underlying9
  rw [dif_pos ⟨h0, by rw [hexS_size]; exact h⟩, hexS_get] at e
  exact e

theorem run_enter {P : Program} {f : FuncId} {fn : Func} (hf : P.funcs[f]? = some fn) (hname : (fn.name == "runtime.NumGoroutine") = false) (hb : fn.body.isNone = false) (args : Array Value) (w : World) :
    (callFunc f args).run P w = .ok (.enter f args) w := by
  have h1 : fn.name ≠ "runtime.NumGoroutine" := by simpa using hname
  have h2 : fn.body ≠ none := by intro h; rw [h] at hb; simp at hb
  simp [callFunc, hf, h1, h2]

/-- A call of a named Go function of one argument, as one step of a statement whose order is open. -/
theorem step_call1 {P : Program} {ops : Array Oper} {o : Oper} {a : Act} {w : World} {K : Act → World → Prop} {Q : Exit → Act → World → Prop} {E : Prop} (hgd : o.guard = none) (f : FuncId) (x : Operand) (T : TypeId)
    (ho : o.op = .call { callee := .value (.func f), args := #[x], argTypes := #[T] }) {fn : Func}
    (hf : P.funcs[f]? = some fn) (hname : (fn.name == "runtime.NumGoroutine") = false) (hb : fn.body.isNone = false) (v : Value) (hx : a.eval x = v)
    (h : Calls P f #[v] w fun e w' => ∃ u, e = .returned u ∧ K (a.put o.dst u) w') : if Region.wanted o (yielded ops a.tmps) = true then Oper.wp P o a w K Q else E := by
  rw [if_pos (by simp [Region.wanted, hgd])]
  obtain ⟨dst, op, ty, pos, after, guard⟩ := o
  simp only at ho hgd
  subst ho
  subst hgd
  unfold Oper.wp
  rw [execOp_call_go, run_enter hf hname hb]
  rw [Oper.upon_enter]
  have e : #[] ++ Array.map a.eval #[x] ++ #[] = #[v] := by simp [hx]
  rw [e]
  refine h.mono ?_
  rintro e w' ⟨u, rfl, hk⟩
  exact hk

/-- 'out = append(out, x, y)', out a row of bytes of the call's own, as one step of a statement whose order is open. -/
theorem step_app2 {ops : Array Oper} {o : Oper} {a : Act} {K : Act → World → Prop} {Q : Exit → Act → World → Prop} {E : Prop} (hgd : o.guard = none) (s x : Operand)
    (ho : o.op = .call { callee := .builtin .append, args := #[s, x], argTypes := #[22, 22] }) {wr : World} {base n : Nat} {v : Value} {xs : List Value} (hown : wr.ownsRow base 5 1 v n xs) (hb : base ≤ wr.heap.size) (b c : Int) (hn : n ≤ 4194304)
    (hs : a.eval s = v) (hx : a.eval x = .slice (some ⟨wr.heap.size, 0, none⟩) 2 2)
    (h : ∀ v' w', w'.ownsRow base 5 1 v' (n + 2) (xs ++ [.int .u8 b, .int .u8 c]) → Below base wr w' → K (a.put o.dst v') w') :
    if Region.wanted o (yielded ops a.tmps) = true then Oper.wp Tryz.prog o a (wr.alloc (.cells #[.int .u8 b, .int .u8 c] 5)) K Q else E := by
  rw [if_pos (by simp [Region.wanted, hgd])]
  obtain ⟨i0, hi, hz0, hz1, hz2⟩ := info_parts Tryz.info5
  refine wp_append_own (P := Tryz.prog) (wr.alloc (.cells #[.int .u8 b, .int .u8 c] 5)) s x 22 ho base 5 i0 (.int .u8 0) 1 1 Tryz.underlying22 hi hz0 hz1 hz2 rfl (by decide) v n xs hs (hown.alloc _)
    ⟨wr.heap.size, 0, none⟩ 2 2 [.int .u8 b, .int .u8 c] hx rfl (src_row wr [b, c]) (one_row [b, c]) (by unfold maxLen; omega) (by omega) (by simp; omega) ?_
  intro v' w' ho' hg _
  refine h v' w' ho' ?_
  refine ((Below.refl base wr).alloc hb _).grown hg (by simp; omega) ?_
  intro k hk
  exact (hown.lt k hk).1

/-- The digits of bytes. -/
def hx : List Nat → List Int
  | [] => []
  | b :: r => dg (b / 16) :: dg (b % 16) :: hx r
theorem hx_snoc (l : List Nat) (b : Nat) : hx (l ++ [b]) = hx l ++ [dg (b / 16), dg (b % 16)] := by
  induction l with
  | nil => rfl
  | cons a r ih => simp [hx, ih]
theorem hx_length (l : List Nat) : (hx l).length = 2 * l.length := by
  induction l with
  | nil => rfl
  | cons a r ih => simp [hx, ih]; omega
theorem hx_step (s : ByteArray) (k : Nat) (h : k < s.size) : hx ((bl s).take (k + 1)) = hx ((bl s).take k) ++ [dg (s[k].toNat / 16), dg (s[k].toNat % 16)] := by rw [bl_take_succ s k h, hx_snoc]
theorem hx_take_length (s : ByteArray) (k : Nat) (h : k ≤ s.size) : (hx ((bl s).take k)).length = 2 * k := by rw [hx_length, List.length_take, bl_length]; omega
theorem bl_take_all (s : ByteArray) : (bl s).take s.size = bl s := List.take_of_length_le (by rw [bl_length]; exact Nat.le_refl _)

theorem and15_u8 (b : Nat) (h : b < 256) : bits .and .u8 (b : Int) 15 = (b : Int) % 16 := by
  have := u8_and_nat b 15 h (by omega)
  rw [nat_mask4] at this
  exact this

end Go.Proofs.YtimpokbcfjgdaaaGreatDoor
namespace Go.Proofs.YtimpokbcfjgdaaaGreatDoor
open Go.RowKit
open Plain

/-- How an element lies in memory: k cells. -/
structure Shape (α : Type) where
  cells : α → List Value
  k : Nat
  len : ∀ x, (cells x).length = k
  one : ∀ x, ∀ u ∈ cells x, u.oneCell' = true
  pos : 0 < k

def Shape.flat {α : Type} (S : Shape α) : List α → List Value
  | [] => []
  | x :: r => S.cells x ++ S.flat r
theorem Shape.flat_length {α : Type} (S : Shape α) (xs : List α) : (S.flat xs).length = xs.length * S.k := by
  induction xs with
  | nil => simp [Shape.flat]
  | cons x r ih => rw [Shape.flat, List.length_append, S.len, ih, List.length_cons, Nat.succ_mul]; omega
theorem Shape.flat_append {α : Type} (S : Shape α) (xs ys : List α) : S.flat (xs ++ ys) = S.flat xs ++ S.flat ys := by
  induction xs with
  | nil => rfl
  | cons x r ih => rw [List.cons_append, Shape.flat, ih, Shape.flat, List.append_assoc]
theorem Shape.flat_one {α : Type} (S : Shape α) (xs : List α) : ∀ u ∈ S.flat xs, u.oneCell' = true := by
  induction xs with
  | nil => intro u h; simp [Shape.flat] at h
  | cons x r ih =>
    intro u h
    rw [Shape.flat, List.mem_append] at h
    rcases h with h | h
    · exact S.one x u h
    · exact ih u h
theorem Shape.flat_get {α : Type} (S : Shape α) (xs : List α) : ∀ i (hi : i < xs.length) j, j < S.k → (S.flat xs)[i * S.k + j]? = (S.cells (xs[i]))[j]? := by
  induction xs with
  | nil => intro i hi; simp at hi
  | cons x r ih =>
    intro i hi j hj
    have hl := S.len x
    cases i with
    | zero =>
      rw [Shape.flat, Nat.zero_mul, Nat.zero_add, List.getElem?_append_left (by omega)]
      rfl
    | succ i =>
      rw [Shape.flat, List.getElem?_append_right (by rw [hl, Nat.succ_mul]; omega), hl]
      rw [show (i + 1) * S.k + j - S.k = i * S.k + j from by rw [Nat.succ_mul]; omega]
      exact ih i (by simpa using hi) j hj

/-- The slice (a, n, ..) shows these elements. -/
structure Shape.Row {α : Type} (S : Shape α) (w : World) (a : Option Addr) (n : Nat) (xs : List α) : Prop where
  len : xs.length = n
  cells : ∀ i, (hi : i < xs.length) → ∃ b off, a = some ⟨b, off, none⟩ ∧ b < w.heap.size ∧ ∀ j, j < S.k → w.cell? ⟨b, off + i * S.k + j, none⟩ = (S.cells (xs[i]))[j]?
theorem Shape.Row.later {α : Type} {S : Shape α} {w w' : World} {a : Option Addr} {n : Nat} {xs : List α} (h : S.Row w a n xs) (hb : Below w.heap.size w w') : S.Row w' a n xs where
  len := h.len
  cells := fun i hi => by
    obtain ⟨b, off, h1, h2, h3⟩ := h.cells i hi
    exact ⟨b, off, h1, Nat.lt_of_lt_of_le h2 hb.size, fun j hj => by rw [hb.cell (p := ⟨b, off + i * S.k + j, none⟩) h2]; exact h3 j hj⟩
theorem addr_add' (b off j : Nat) : (⟨b, off, none⟩ : Addr).add j = ⟨b, off + j, none⟩ := by unfold Addr.add; split <;> simp_all
theorem Shape.Row.src {α : Type} {S : Shape α} {w : World} {ad : Addr} {n : Nat} {xs : List α} (h : S.Row w (some ad) n xs) : ∀ j u, (S.flat xs)[j]? = some u → w.cell? (ad.add j) = some u := by
  intro j u hj
  have hk := S.pos
  have hjl : j < xs.length * S.k := by
    have := (List.getElem?_eq_some_iff.1 hj).1
    rw [S.flat_length] at this
    exact this
  have hi : j / S.k < xs.length := (Nat.div_lt_iff_lt_mul hk).2 hjl
  have hm : j % S.k < S.k := Nat.mod_lt _ hk
  have hd : j / S.k * S.k + j % S.k = j := by rw [Nat.mul_comm]; exact Nat.div_add_mod j S.k
  obtain ⟨b, off, e, _, c⟩ := h.cells (j / S.k) hi
  injection e with e
  subst e
  have h1 := S.flat_get xs (j / S.k) hi (j % S.k) hm
  rw [hd, hj] at h1
  have h2 := c (j % S.k) hm
  rw [addr_add', show off + j = off + j / S.k * S.k + j % S.k from by omega, h2, ← h1]

/-- The slice v shows these elements; they lie in a row of the call's own, from block base on. -/
def Shape.Own {α : Type} (S : Shape α) (T : TypeId) (w : World) (base : Nat) (v : Value) (xs : List α) : Prop := w.ownsRow base T S.k v xs.length (S.flat xs)
theorem Shape.Own.len {α : Type} {S : Shape α} {T : TypeId} {w : World} {base : Nat} {a : Option Addr} {n cap : Nat} {xs : List α} (h : S.Own T w base (.slice a n cap) xs) : xs.length = n := by
  rcases h.2 with ⟨e, h0⟩ | ⟨g, c, cur, e, _⟩
  · simp only [Value.slice.injEq] at e; omega
  · simp only [Value.slice.injEq] at e; omega
theorem Shape.Own.blk {α : Type} {S : Shape α} {T : TypeId} {w : World} {base : Nat} {v : Value} {xs : List α} (h : S.Own T w base v xs) : ∀ g, v.ownBlock = some g → base ≤ g ∧ g < w.heap.size := World.ownsRow.lt h
theorem Shape.Own.row {α : Type} {S : Shape α} {T : TypeId} {w : World} {base : Nat} {a : Option Addr} {n cap : Nat} {xs : List α} (h : S.Own T w base (.slice a n cap) xs) : S.Row w a n xs where
  len := h.len
  cells := fun i hi => by
    have hn := h.len
    have hfl := S.flat_length xs
    unfold Shape.Own at h
    rw [hn] at h
    rcases h.2 with ⟨e, h0⟩ | ⟨g, c, cur, e, hb, hg, _⟩
    · omega
    · simp only [Value.slice.injEq] at e
      obtain ⟨rfl, _, rfl⟩ := e
      have hgl : g < w.heap.size := by
        rcases Nat.lt_or_ge g w.heap.size with h' | h'
        · exact h'
        · rw [Array.getElem?_eq_none h'] at hg; cases hg
      refine ⟨g, 0, rfl, hgl, fun j hj => ?_⟩
      have hlt : i * S.k + j < n * S.k := by
        have : (i + 1) * S.k ≤ n * S.k := Nat.mul_le_mul_right _ (by omega)
        rw [Nat.succ_mul] at this
        omega
      have hget := S.flat_get xs i hi j hj
      have hj2 : j < (S.cells (xs[i])).length := by rw [S.len]; exact hj
      rw [Nat.zero_add, h.cellAt _ (by omega), hget, List.getElem?_eq_getElem hj2]
theorem Shape.Own.later {α : Type} {S : Shape α} {T : TypeId} {w w' : World} {base K : Nat} {v : Value} {xs : List α} (h : S.Own T w base v xs) (hb : Below K w w') (hK : w.heap.size ≤ K) : S.Own T w' base v xs := by
  refine ⟨h.1, ?_⟩
  rcases h.2 with h | ⟨g, c, cur, e, hbg, hg, h1⟩
  · exact .inl h
  · have hgl : g < w.heap.size := by
      rcases Nat.lt_or_ge g w.heap.size with h' | h'
      · exact h'
      · rw [Array.getElem?_eq_none h'] at hg; cases hg
    exact .inr ⟨g, c, cur, e, hbg, by rw [hb.block g (by omega)]; exact hg, h1⟩
theorem Shape.Own.mono {α : Type} {S : Shape α} {T : TypeId} {w : World} {base base' : Nat} {v : Value} {xs : List α} (h : S.Own T w base v xs) (hb : base' ≤ base) : S.Own T w base' v xs := by
  refine ⟨h.1, ?_⟩
  rcases h.2 with h | ⟨g, c, cur, e, hbg, h1⟩
  · exact .inl h
  · exact .inr ⟨g, c, cur, e, Nat.le_trans hb hbg, h1⟩
/-- Another block is written. -/
theorem Shape.Own.setNe {α : Type} {S : Shape α} {T : TypeId} {w : World} {base : Nat} {v : Value} {xs : List α} (h : S.Own T w base v xs) (p : Addr) (u : Value) (hp : v.ownBlock ≠ some p.block) : S.Own T (w.setCell p u) base v xs := by
  refine ⟨h.1, ?_⟩
  rcases h.2 with h | ⟨g, c, cur, e, hbg, hg, h1⟩
  · exact .inl h
  · refine .inr ⟨g, c, cur, e, hbg, ?_, h1⟩
    rw [Below.heap_setCell w p u g (by intro q; apply hp; rw [e, ← q]; rfl)]
    exact hg
theorem Shape.Own.setCell {α : Type} {S : Shape α} {T : TypeId} {w : World} {base : Nat} {v : Value} {xs : List α} (h : S.Own T w base v xs) (p : Addr) (u : Value) (hp : p.block < base) : S.Own T (w.setCell p u) base v xs :=
  h.setNe p u (fun e => by have := (h.blk _ e).1; omega)
/-- What is drawn from the cursor leaves rows behind it alone. -/
theorem Shape.Own.grownB {α : Type} {S : Shape α} {T : TypeId} {w w' : World} {base B : Nat} {v : Value} {xs : List α} (h : S.Own T w base v xs) (hg : w.grownBy w' (some B)) (hB : B < base) : S.Own T w' base v xs := by
  refine World.ownsRow.kept h hg ?_
  cases e : v.ownBlock with
  | none => exact .inl rfl
  | some g => exact .inr (fun q => by injection q with q; have := (h.blk g e).1; omega)
/-- An empty row that the call has laid. -/
theorem Shape.Own.empty {α : Type} (S : Shape α) (T : TypeId) (w : World) : S.Own T (w.alloc (.cells #[] T)) w.heap.size (.slice (some ⟨w.heap.size, 0, none⟩) 0 0) [] :=
  ⟨by simp [Shape.flat], .inr ⟨w.heap.size, 0, #[], rfl, Nat.le_refl _, heap_alloc_new w _, Nat.le_refl _, by unfold maxLen; omega, by simp, by simp [Shape.flat]⟩⟩
theorem Shape.Own.nil {α : Type} (S : Shape α) (T : TypeId) (w : World) (base : Nat) : S.Own T w base (.slice none 0 0) [] := ⟨by simp [Shape.flat], .inl ⟨rfl, rfl⟩⟩
/-- One element in a new block, as a row. -/
theorem Shape.Row.single {α : Type} (S : Shape α) (T : TypeId) (w : World) (x : α) : S.Row (w.alloc (.cells (S.cells x).toArray T)) (some ⟨w.heap.size, 0, none⟩) 1 [x] where
  len := rfl
  cells := fun i hi => by
    obtain rfl : i = 0 := by simp at hi; omega
    refine ⟨w.heap.size, 0, rfl, by simp, fun j hj => ?_⟩
    rw [cell_of_row _ _ _ _ _ _ (heap_alloc_new w _)]
    simp

/-- 'out = append(out, ys...)', out a row of the call's own: a law for the walk. -/
theorem Shape.wpList_app {P : Program} {α : Type} (S : Shape α) {ops : Array Oper} {rest : List Oper} {o : Oper} {act : Act} {Q : Exit → Act → World → Prop} (hgd : o.guard = none) (s x : Operand) (ST T : TypeId)
    (ho : o.op = .call { callee := .builtin .append, args := #[s, x], argTypes := #[ST, ST] }) {i0 : TypeInfo} {z : Value} {bytes : Nat} (hu : P.underlying ST = some (.slice T)) (hi : P.info? T = some i0) (hz0 : i0.zero = some z) (hz1 : i0.size = S.k) (hz2 : i0.bytes = bytes) (hzs : z.cells.size = S.k) (hby : bytes ≤ 128)
    {w : World} {base : Nat} {v : Value} {xs ys : List α} (hown : S.Own T w base v xs) (hb : base ≤ w.heap.size) {ad : Addr} {m c : Nat} (hr : S.Row w (some ad) m ys) (hn : xs.length + m ≤ 1099511627776)
    (hs : act.eval s = v) (hx : act.eval x = .slice (some ad) m c)
    (h : ∀ a' n' cap' w', n' = xs.length + m → S.Own T w' base (.slice a' n' cap') (xs ++ ys) → w.grownBy w' v.ownBlock → wpList P ops Q rest (act.put o.dst (.slice a' n' cap')) w') : wpList P ops Q (o :: rest) act w := by
  have hm := hr.len
  have hmul : (xs.length + m) * bytes ≤ 140737488355328 := Nat.le_trans (Nat.mul_le_mul hn hby) (by decide)
  refine wpList_append_own (P := P) w hgd s x ST ho base T i0 z S.k bytes hu hi hz0 hz1 hz2 hzs S.pos v xs.length (S.flat xs) hs hown
    ad m c (S.flat ys) hx (by rw [S.flat_length, hm]) hr.src (S.flat_one ys) (by unfold maxLen; omega) hmul hb ?_
  intro v' w' ho' hg _
  have hval : ∃ a' cap', v' = .slice a' (xs.length + m) cap' := by
    rcases ho'.2 with ⟨e, h0⟩ | ⟨g, cap, cur, e, _⟩
    · exact ⟨none, 0, by rw [e, h0]⟩
    · exact ⟨_, _, e⟩
  obtain ⟨a', cap', rfl⟩ := hval
  refine h a' _ cap' w' rfl ?_ hg
  unfold Shape.Own
  rw [List.length_append, hm, S.flat_append]
  exact ho'

end Go.Proofs.YtimpokbcfjgdaaaGreatDoor
namespace Go.Proofs.YtimpokbcfjgdaaaGreatDoor
open Go.RowKit
open Plain

def setL (l : List Value) (p : Nat) : List Value → List Value
  | [] => l
  | v :: r => setL (l.set p v) (p + 1) r
def putL (w : World) (g p : Nat) : List Value → World
  | [] => w
  | v :: r => putL (w.setCell ⟨g, p, none⟩ v) g (p + 1) r
theorem setL_behind (vs : List Value) : ∀ (pre l : List Value) (p : Nat), setL (pre ++ l) (pre.length + p) vs = pre ++ setL l p vs := by
  induction vs with
  | nil => intro pre l p; rfl
  | cons v r ih =>
    intro pre l p
    rw [setL, setL, List.set_append_right _ _ (by omega), show pre.length + p - pre.length = p from by omega]
    exact ih pre (l.set p v) (p + 1)
theorem setL_head (vs : List Value) : ∀ (ys zs : List Value), ys.length = vs.length → setL (ys ++ zs) 0 vs = vs ++ zs := by
  induction vs with
  | nil => intro ys zs h; simp at h; subst h; rfl
  | cons v r ih =>
    intro ys zs h
    cases ys with
    | nil => simp at h
    | cons a ys =>
      rw [setL, List.cons_append, List.set_cons_zero]
      have e := setL_behind r [v] (ys ++ zs) 0
      rw [List.length_singleton, List.singleton_append, Nat.add_zero] at e
      rw [Nat.zero_add, e, ih ys zs (by simpa using h)]
      rfl
theorem Shape.flat_set {α : Type} (S : Shape α) (xs : List α) (x : α) : ∀ i, i < xs.length → setL (S.flat xs) (i * S.k) (S.cells x) = S.flat (xs.set i x) := by
  induction xs with
  | nil => intro i h; simp at h
  | cons a r ih =>
    intro i h
    cases i with
    | zero =>
      rw [Shape.flat, Nat.zero_mul, setL_head _ _ _ (by rw [S.len, S.len]), List.set_cons_zero, Shape.flat]
    | succ i =>
      have e := setL_behind (S.cells x) (S.cells a) (S.flat r) (i * S.k)
      rw [S.len] at e
      rw [Shape.flat, Nat.succ_mul, Nat.add_comm (i * S.k), e, ih i (by simpa using h), List.set_cons_succ, Shape.flat]
theorem gchain {a b c : World} {r : Option Nat} (h : a.grownBy b r) (k : b.grownBy c r) : a.grownBy c r :=
  ⟨k.os.trans h.os, k.tape.trans h.tape, k.output.trans h.output, Nat.le_trans h.size k.size, fun i hi hr => (k.block i (Nat.lt_of_lt_of_le hi h.size) hr).trans (h.block i hi hr)⟩
theorem putL_own {base T sz g n cap : Nat} (vs : List Value) : ∀ (w : World) (l : List Value) (p : Nat), w.ownsRow base T sz (.slice (some ⟨g, 0, none⟩) n cap) n l → (putL w g p vs).ownsRow base T sz (.slice (some ⟨g, 0, none⟩) n cap) n (setL l p vs) ∧ w.grownBy (putL w g p vs) (some g) := by
  induction vs with
  | nil => intro w l p h; exact ⟨h, ⟨rfl, rfl, rfl, Nat.le_refl _, fun _ _ _ => rfl⟩⟩
  | cons v r ih =>
    intro w l p h
    have h1 := h.stored p v
    have h2 := ih _ _ (p + 1) h1.1
    exact ⟨h2.1, gchain h1.2 h2.2⟩
theorem Shape.Own.put {α : Type} {S : Shape α} {T : TypeId} {w : World} {base g n cap : Nat} {xs : List α} (h : S.Own T w base (.slice (some ⟨g, 0, none⟩) n cap) xs) (i : Nat) (x : α) (hi : i < n) :
    S.Own T (putL w g (i * S.k) (S.cells x)) base (.slice (some ⟨g, 0, none⟩) n cap) (xs.set i x) ∧ w.grownBy (putL w g (i * S.k) (S.cells x)) (some g) := by
  have hn := h.len
  unfold Shape.Own at h ⊢
  rw [hn] at h
  have h1 := putL_own (S.cells x) w (S.flat xs) (i * S.k) h
  rw [List.length_set, hn, ← S.flat_set xs x i (by omega)]
  exact h1
theorem Shape.Own.frz {α : Type} {S : Shape α} {T : TypeId} {w : World} {base g n cap : Nat} {xs : List α} (h : S.Own T w base (.slice (some ⟨g, 0, none⟩) n cap) xs) (j : Nat) : w.frozen? ⟨g, j, none⟩ = false := by
  have hn := h.len
  unfold Shape.Own at h
  rw [hn] at h
  exact h.frozenAt j
/-- A row of n zeros, flat. -/
theorem Shape.flat_made {α : Type} (S : Shape α) (x : α) (n : Nat) : S.flat (List.replicate n x) = (madeCells (S.cells x).toArray (n * S.k)).toList := by
  have hk := S.pos
  apply List.ext_getElem?
  intro j
  by_cases hj : j < n * S.k
  · have hi : j / S.k < (List.replicate n x).length := by rw [List.length_replicate]; exact (Nat.div_lt_iff_lt_mul hk).2 hj
    have hm : j % S.k < S.k := Nat.mod_lt _ hk
    have hg := S.flat_get (List.replicate n x) (j / S.k) hi (j % S.k) hm
    have hd : j / S.k * S.k + j % S.k = j := by rw [Nat.mul_comm]; exact Nat.div_add_mod j S.k
    rw [hd, List.getElem_replicate] at hg
    rw [hg]
    have hl : j % S.k < (S.cells x).length := by rw [S.len]; exact hm
    simp [madeCells, hj, S.len, List.getElem?_eq_getElem hl]
  · rw [List.getElem?_eq_none (by rw [S.flat_length, List.length_replicate]; omega), List.getElem?_eq_none (by simp [madeCells]; omega)]
theorem take_set_succ' {α : Type} (gs fs : List α) (k : Nat) (hk : k < fs.length) (hg : k < gs.length) (h : gs.take k = fs.take k) : (gs.set k (fs[k])).take (k + 1) = fs.take (k + 1) := by
  rw [List.take_succ_eq_append_getElem (by rw [List.length_set]; exact hg), List.take_succ_eq_append_getElem hk, List.take_set_of_le (Nat.le_refl _), h]
  simp

end Go.Proofs.YtimpokbcfjgdaaaGreatDoor
namespace Go.Proofs.YtimpokbcfjgdaaaGreatDoor
open Go.RowKit
open Plain

set_option maxHeartbeats 400000 in
theorem in_any (x lo hi : Int) (w : World) :
    Calls Tryz.prog 72 #[.int .i64 x, .int .i64 lo, .int .i64 hi] w fun e w' => e = .returned (.bool (decide (lo ≤ x ∧ x ≤ hi))) ∧ w = w' := by
  by_cases h1 : lo ≤ x
  · by_cases h2 : x ≤ hi
    all_goals
      go_enter Tryz.func72, Tryz.ntmps72
      go_wp2
      go_ret
      exact ⟨by simp [h1, h2], rfl⟩
  · have h3 : decide (lo ≤ x) = false := by simpa using h1
    go_enter Tryz.func72, Tryz.ntmps72
    go_wp2
    go_ret
    exact ⟨by first | (simp; done) | (simp; omega), rfl⟩

end Go.Proofs.YtimpokbcfjgdaaaGreatDoor
namespace Go.Proofs.YtimpokbcfjgdaaaGreatDoor
open Go.RowKit
open Plain

/-- A record. -/
structure RecV where
  kind : Int
  batch : Int
  key : ByteArray
  val : ByteArray
  cnt : Int
  sum : Int
theorem RecV.ext' {r q : RecV} (h1 : r.kind = q.kind) (h2 : r.batch = q.batch) (h3 : r.key = q.key) (h4 : r.val = q.val) (h5 : r.cnt = q.cnt) (h6 : r.sum = q.sum) : r = q := by
  cases r; cases q; simp_all

/-- Is it a key? -/
def keyB (s : ByteArray) : Bool := decide (1 ≤ s.size ∧ s.size ≤ 8)
theorem keyB_yes {s : ByteArray} (h : 1 ≤ s.size ∧ s.size ≤ 8) : keyB s = true := decide_eq_true h
theorem keyB_no {s : ByteArray} (h : ¬ (1 ≤ s.size ∧ s.size ≤ 8)) : keyB s = false := decide_eq_false h

/-- What a right record is. -/
def RecOkP (k b : Int) (key val : Nat) (c s : Int) : Prop :=
  (1 ≤ b ∨ (b = 0 ∧ k = 5)) ∧ b ≤ 1000000 ∧
    (((k = 1 ∨ k = 4) ∧ 1 ≤ key ∧ key ≤ 8 ∧ val ≤ 24 ∧ c = 0 ∧ s = 0) ∨
     (k = 2 ∧ 1 ≤ key ∧ key ≤ 8 ∧ val = 0 ∧ c = 0 ∧ s = 0) ∨
     (k = 3 ∧ key = 0 ∧ val = 0 ∧ 0 ≤ c ∧ c ≤ 8 ∧ 0 ≤ s ∧ s ≤ 4294967295) ∨
     (k = 5 ∧ key = 0 ∧ val = 0 ∧ 0 ≤ c ∧ c ≤ 20 ∧ 0 ≤ s ∧ s ≤ 4294967295))
/-- The same as an answer. -/
def okN (k b : Int) (key val : Nat) (c s : Int) : Bool :=
  decide ((1 ≤ b ∨ (b = 0 ∧ k = 5)) ∧ b ≤ 1000000 ∧
    (((k = 1 ∨ k = 4) ∧ 1 ≤ key ∧ key ≤ 8 ∧ val ≤ 24 ∧ c = 0 ∧ s = 0) ∨
     (k = 2 ∧ 1 ≤ key ∧ key ≤ 8 ∧ val = 0 ∧ c = 0 ∧ s = 0) ∨
     (k = 3 ∧ key = 0 ∧ val = 0 ∧ 0 ≤ c ∧ c ≤ 8 ∧ 0 ≤ s ∧ s ≤ 4294967295) ∨
     (k = 5 ∧ key = 0 ∧ val = 0 ∧ 0 ≤ c ∧ c ≤ 20 ∧ 0 ≤ s ∧ s ≤ 4294967295)))
theorem okN_yes {k b : Int} {key val : Nat} {c s : Int} (h : RecOkP k b key val c s) : okN k b key val c s = true := decide_eq_true h
theorem okN_no {k b : Int} {key val : Nat} {c s : Int} (h : ¬ RecOkP k b key val c s) : okN k b key val c s = false := decide_eq_false h
theorem okN_iff {k b : Int} {key val : Nat} {c s : Int} : okN k b key val c s = true ↔ RecOkP k b key val c s := decide_eq_true_iff
def recOkB (r : RecV) : Bool := okN r.kind r.batch r.key.size r.val.size r.cnt r.sum

theorem toList_inj {a b : ByteArray} (h : a.toList = b.toList) : a = b := by
  rw [ByteArray.toList_eq, ByteArray.toList_eq] at h
  cases a; cases b
  simp at h
  subst h
  rfl
theorem str_eq (a b : ByteArray) (h : a = b) : (a.toList == b.toList) = true := by subst h; simp
theorem str_ne (a b : ByteArray) (h : ¬ a = b) : (a.toList == b.toList) = false := by
  simp
  intro e
  exact h (toList_inj e)
theorem empty_of {a : ByteArray} (h : a.size = 0) : a = ⟨#[]⟩ := by
  obtain ⟨⟨l⟩⟩ := a
  have : l.length = 0 := h
  rw [List.length_eq_zero_iff] at this
  subst this
  rfl
theorem nil_eq {a : ByteArray} (h : a.size = 0) : a.toList = [] := by rw [empty_of h, ByteArray.toList_eq]
theorem nil_ne {a : ByteArray} (h : ¬ a.size = 0) : ¬ a.toList = [] := fun e => h (by
  have : a = ⟨#[]⟩ := toList_inj (e.trans (by rw [ByteArray.toList_eq]))
  rw [this]; rfl)

set_option maxHeartbeats 400000 in
theorem specKey_any (s : ByteArray) (w : World) :
    Calls Tryz.prog 106 #[.string s] w fun e w' => e = .returned (.bool (keyB s)) ∧ w = w' := by
  have HK : Hid (decide ((1 : Int) ≤ (s.size : Int) ∧ (s.size : Int) ≤ 8) = keyB s) := hide (by unfold keyB; apply decide_eq_decide.2; omega)
  go_enter Tryz.func106, Tryz.ntmps106
  go_wp2_with (go_at_call 72; refine (in_any _ _ _ _).mono ?_; rw [HK.out]; rintro e w' ⟨rfl, rfl⟩)
  go_ret
  exact ⟨rfl, rfl⟩

set_option maxHeartbeats 400000 in
theorem implKey_any (s : ByteArray) (w : World) :
    Calls Tryz.prog 127 #[.string s] w fun e w' => e = .returned (.bool (keyB s)) ∧ w = w' := by
  by_cases h1 : 1 ≤ s.size
  · have t1 : decide ((1 : Int) ≤ (s.size : Int)) = true := by simp; omega
    by_cases h2 : s.size ≤ 8
    · have t2 : decide ((s.size : Int) ≤ 8) = true := by simp; omega
      have HV := hide (keyB_yes ⟨h1, h2⟩)
      clear h1 h2
      go_enter Tryz.func127, Tryz.ntmps127
      go_wp2
      go_ret
      exact ⟨by rw [HV.out]; rfl, rfl⟩
    · have t2 : decide ((s.size : Int) ≤ 8) = false := by simp; omega
      have HV := hide (keyB_no (s := s) (by omega))
      clear h1 h2
      go_enter Tryz.func127, Tryz.ntmps127
      go_wp2
      go_ret
      exact ⟨by rw [HV.out]; rfl, rfl⟩
  · have t1 : decide ((1 : Int) ≤ (s.size : Int)) = false := by simp; omega
    have HV := hide (keyB_no (s := s) (by omega))
    clear h1
    go_enter Tryz.func127, Tryz.ntmps127
    go_wp2
    go_ret
    exact ⟨by rw [HV.out]; rfl, rfl⟩

end Go.Proofs.YtimpokbcfjgdaaaGreatDoor
